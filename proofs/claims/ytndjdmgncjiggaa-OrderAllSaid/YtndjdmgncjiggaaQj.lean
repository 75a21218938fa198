/- copy of elements of any size, as a law of the walk and as a step of a region that draws; the walks of tree's with. -/
import Derived.Test.YtndjdmgncjiggaaQKc
import Derived.Laws.CopyOwn
namespace Go.Proofs.Ytndjdmgncjiggaa
open Go.RowKit Go.Shelf
set_option linter.unusedVariables false
set_option linter.unusedSimpArgs false

theorem run_copy_rowN {P : Program} (w : World) (dT sT ty elem : TypeId) (size : Nat) (g o dLen dCap : Nat) (a : Addr) (sLen sCap : Nat) (cur : Array Value) (t : TypeId) (cs : List Value)
    (hu : P.underlying dT = some (.slice elem)) (hs : (P.info? elem).map (·.size) = some size)
    (hg : w.heap[g]? = some (.cells cur t (0, 0))) (hn : cs.length = Nat.min sLen dLen * size)
    (hsrc : ∀ j v, cs[j]? = some v → w.cell? (a.add j) = some v) (hfit : o + cs.length ≤ cur.size) (h1 : ∀ v ∈ cs, v.oneCell' = true) :
    (Builtin.copy_ #[dT, sT] ty #[.slice (some ⟨g, o, none⟩) dLen dCap, .slice (some a) sLen sCap]).run P w =
      .ok (goInt (Nat.min sLen dLen)) (w.setRow g (cur.toList.take o ++ cs ++ cur.toList.drop (o + cs.length)).toArray) := by
  have hl := run_loadCells_list (P := P) w a cs hsrc
  have hst := run_storeCells_at P g o t cs 0 cur w hg (by simpa using hfit) h1
  cases hq : P.info? elem with
  | none => simp [hq] at hs
  | some i =>
    have hi : i.size = size := by simpa [hq] using hs
    simp [Builtin.copy_, run_underlying hu, Builtin.lenOf, Builtin.firstCells, sizeOf, typeInfo, hq, hi, ← hn, hl, hst]
theorem run_copy_noneN {P : Program} (w : World) (dT sT ty elem : TypeId) (size : Nat) (d a : Option Addr) (dLen dCap sLen sCap : Nat) (hu : P.underlying dT = some (.slice elem)) (hs : (P.info? elem).map (·.size) = some size) (hn : Nat.min sLen dLen = 0) :
    (Builtin.copy_ #[dT, sT] ty #[.slice d dLen dCap, .slice a sLen sCap]).run P w = .ok (goInt 0) w := by
  cases hq : P.info? elem with
  | none => simp [hq] at hs
  | some i =>
    have hl : ∀ (x : Addr), (loadCells x 0).run P w = .ok #[] w := fun x => by simpa using run_loadCells_list (P := P) w x [] (by simp)
    cases d <;> cases a <;> simp [Builtin.copy_, run_underlying hu, Builtin.lenOf, Builtin.firstCells, sizeOf, typeInfo, hq, hn, storeCells, hl]
theorem wp_spliceN {P : Program} {w : World} {o : Oper} {a : Act} {K : Act → World → Prop} {Q : Exit → Act → World → Prop} (d s : Operand) (dT sT : TypeId)
    (ho : o.op = .call { callee := .builtin .copy, args := #[d, s], argTypes := #[dT, sT] }) (elem : TypeId) (size : Nat) (hu : P.underlying dT = some (.slice elem)) (hsz : (P.info? elem).map (·.size) = some size)
    (dp sp : Option Addr) (dLen dCap sLen sCap : Nat) (hd : a.eval d = .slice dp dLen dCap) (hs : a.eval s = .slice sp sLen sCap)
    (g off : Nat) (cur : List Value) (t : TypeId) (hg : BlkV w g t cur) (cs : List Value) (hsp : 0 < size) (hn : cs.length = Nat.min sLen dLen * size)
    (hpos : 0 < cs.length → dp = some ⟨g, off, none⟩) (hr : RdV w sp cs)
    (hfit : off + cs.length ≤ cur.length) (h1 : ∀ v ∈ cs, v.oneCell' = true) (B : Nat) (w0 : World) (hb : RowKit.Below B w0 w) (hBg : B ≤ g)
    (h : ∀ w', RowKit.Hid (BlkV w' g t (splice cur off cs)) → RowKit.Below B w0 w' → K (a.put o.dst (goInt (Nat.min sLen dLen))) w') :
    Oper.wp P o a w K Q := by
  by_cases h0 : cs.length = 0
  · obtain rfl : cs = [] := List.eq_nil_of_length_eq_zero h0
    have hz : Nat.min sLen dLen = 0 := by
      rcases Nat.eq_zero_or_pos (Nat.min sLen dLen) with h | h
      · exact h
      · have := Nat.mul_pos h hsp; simp at hn; omega
    have hrun := run_copy_noneN (P := P) w dT sT o.type elem size dp sp dLen dCap sLen sCap hu hsz hz
    rw [hz] at h
    unfold Oper.wp
    simp [execOp, ho, resolve, invoke, builtin, hd, hs, hrun, Result.andThen]
    exact h w (show BlkV _ _ _ _ by unfold BlkV at hg ⊢; simpa [splice] using hg) hb
  · obtain rfl := hpos (by omega)
    obtain ⟨b, o', rfl, _, _⟩ := hr 0 (by omega)
    have hsrc : ∀ j v, cs[j]? = some v → w.cell? ((⟨b, o', none⟩ : Addr).add j) = some v := by
      intro j v hj
      have hjl : j < cs.length := (List.getElem?_eq_some_iff.1 hj).1
      have hadd : (⟨b, o', none⟩ : Addr).add j = ⟨b, o' + j, none⟩ := by unfold Addr.add; split <;> simp_all
      rw [hadd, hr.at j hjl, hj]
    have hrun := run_copy_rowN (P := P) w dT sT o.type elem size g off dLen dCap ⟨b, o', none⟩ sLen sCap cur.toArray t cs hu hsz hg hn hsrc (by simpa using hfit) h1
    unfold Oper.wp
    simp [execOp, ho, resolve, invoke, builtin, hd, hs, hrun, Result.andThen]
    exact h _ (show BlkV _ _ _ _ by unfold BlkV at hg ⊢; simpa [splice] using setRow_heap w g _ _ t _ hg) (below_setRow hb hBg _)
theorem wpl_spliceN {P : Program} {w : World} {ops : Array Oper} {rest : List Oper} {o : Oper} {a : Act} {Q : Exit → Act → World → Prop} (hgd : o.guard = none) (d s : Operand) (dT sT : TypeId)
    (ho : o.op = .call { callee := .builtin .copy, args := #[d, s], argTypes := #[dT, sT] }) (elem : TypeId) (size : Nat) (hu : P.underlying dT = some (.slice elem)) (hsz : (P.info? elem).map (·.size) = some size)
    (dp sp : Option Addr) (dLen dCap sLen sCap : Nat) (hd : a.eval d = .slice dp dLen dCap) (hs : a.eval s = .slice sp sLen sCap)
    (g off : Nat) (cur : List Value) (t : TypeId) (hg : BlkV w g t cur) (cs : List Value) (hsp : 0 < size) (hn : cs.length = Nat.min sLen dLen * size)
    (hpos : 0 < cs.length → dp = some ⟨g, off, none⟩) (hr : RdV w sp cs)
    (hfit : off + cs.length ≤ cur.length) (h1 : ∀ v ∈ cs, v.oneCell' = true) (B : Nat) (w0 : World) (hb : RowKit.Below B w0 w) (hBg : B ≤ g)
    (h : ∀ w', RowKit.Hid (BlkV w' g t (splice cur off cs)) → RowKit.Below B w0 w' → wpList P ops Q rest (a.put o.dst (goInt (Nat.min sLen dLen))) w') :
    wpList P ops Q (o :: rest) a w :=
  wpList_plain hgd fun _ hK => wp_spliceN d s dT sT ho elem size hu hsz dp sp dLen dCap sLen sCap hd hs g off cur t hg cs hsp hn hpos hr hfit h1 B w0 hb hBg (fun w' h1 h2 => hK _ _ (h w' h1 h2))
theorem step_spliceN {P : Program} {ops : Array Oper} {o : Oper} {a : Act} {w : World} {K : Act → World → Prop} {Q : Exit → Act → World → Prop} {E : Prop} (hgd : o.guard = none) (d s : Operand) (dT sT : TypeId)
    (ho : o.op = .call { callee := .builtin .copy, args := #[d, s], argTypes := #[dT, sT] }) (elem : TypeId) (size : Nat) (hu : P.underlying dT = some (.slice elem)) (hsz : (P.info? elem).map (·.size) = some size)
    (dp sp : Option Addr) (dLen dCap sLen sCap : Nat) (hd : a.eval d = .slice dp dLen dCap) (hs : a.eval s = .slice sp sLen sCap)
    (g off : Nat) (cur : List Value) (t : TypeId) (hg : BlkV w g t cur) (cs : List Value) (hsp : 0 < size) (hn : cs.length = Nat.min sLen dLen * size)
    (hpos : 0 < cs.length → dp = some ⟨g, off, none⟩) (hr : RdV w sp cs)
    (hfit : off + cs.length ≤ cur.length) (h1 : ∀ v ∈ cs, v.oneCell' = true) (B : Nat) (w0 : World) (hb : RowKit.Below B w0 w) (hBg : B ≤ g)
    (h : ∀ w', RowKit.Hid (BlkV w' g t (splice cur off cs)) → RowKit.Below B w0 w' → K (a.put o.dst (goInt (Nat.min sLen dLen))) w') :
    if Region.wanted o (yielded ops a.tmps) = true then Oper.wp P o a w K Q else E := by
  have hw : Region.wanted o (yielded ops a.tmps) = true := by simp [Region.wanted, hgd]
  rw [if_pos hw]
  exact wp_spliceN d s dT sT ho elem size hu hsz dp sp dLen dCap sLen sCap hd hs g off cur t hg cs hsp hn hpos hr hfit h1 B w0 hb hBg h

/-- A new list, whatever of. -/
theorem wpl_makeV {t e : TypeId} {z : Value} {size bytes : Nat} (ht : Try.prog.underlying t = some (.slice e)) (hi : (Try.prog.info? e).map (fun i => (i.zero, i.size, i.bytes)) = some (some z, size, bytes)) (hby : bytes ≤ 1000) (hzs : z.cells.size = size) (hsp : 0 < size) (w : World) {ops : Array Oper} {rest : List Oper} {o : Oper} {a : Act} {Q : Exit → Act → World → Prop}
    (hg : o.guard = none) (l c : Operand) (hop : o.op = Op.makeSlice t l c) (kl kc : IntKind) (L C : Int) (n : Nat)
    (hl : a.eval l = .int kl L) (hc : a.eval c = .int kc C) (hL : L = (n : Int)) (hC : C = (n : Int)) (hn : n ≤ 1000000000)
    (hK : ∀ w' vs, vs.length = n * size → BlkV w' w.heap.size e vs → Below w.heap.size w w' → wpList Try.prog ops Q rest (a.put o.dst (.slice (some ⟨w.heap.size, 0, none⟩) n n)) w') :
    wpList Try.prog ops Q (o :: rest) a w := by
  obtain ⟨i0, hi, hz0, hz1, hz2⟩ := info_parts hi
  refine wpList_make_full w hg l c t hop w.heap.size e i0 z size ht hi hz0 hz1 kl kc L C n hl hc hL hC (by
    rw [hz2]
    have h1 : n * bytes ≤ n * 1000 := Nat.mul_le_mul_left _ hby
    have h2 : bytes * n ≤ 1000 * n := Nat.mul_le_mul_right _ hby
    first | omega | (simp only [ge_iff_le]; exact Nat.le_trans h1 (by omega)) | (trace_state; omega)) (by unfold maxLen; omega) (Nat.le_refl _) ?_
  intro w' ho hgr
  obtain ⟨hl', h | ⟨g, cap, cur, e', _, hh, _, _, hs, ht⟩⟩ := ho
  · exact absurd h.1 (by simp)
  · simp only [Value.slice.injEq, Option.some.injEq, Addr.mk.injEq] at e'
    obtain ⟨⟨rfl, _⟩, _, rfl⟩ := e'
    exact hK w' cur.toList (by simp [hs]) (by unfold BlkV; rw [hh]) ((Below.refl _ _).grown hgr (Nat.le_refl _) (fun k h => by cases h))
/-- Where the rest of a list begins. -/
theorem rest_of {w : World} {size n cap k q : Nat} {o : Option Addr} {vs : List Value} (h : RdV w o vs) (hq : q = k * size) (hl : vs.length = n * size) (hk : k ≤ n) (hc : n ≤ cap) :
    ∃ ad, (if cap = k then o else Option.map (fun x => x.add q) o) = ad ∧ RdV w ad (vs.drop (k * size)) := by
  refine ⟨_, rfl, ?_⟩
  by_cases hd : vs.drop (k * size) = []
  · rw [hd]; exact RdV.nil _ _
  · have hp : 0 < vs.length := by
      rcases Nat.eq_zero_or_pos vs.length with h | h
      · rw [List.eq_nil_of_length_eq_zero h] at hd; simp at hd
      · exact h
    obtain ⟨b, o2, rfl, _⟩ := h.shape hp
    by_cases hck : cap = k
    · exfalso; apply hd
      rw [List.drop_of_length_le]
      rw [hl, show k = n by omega]; exact Nat.le_refl _
    · rw [if_neg hck, hq]
      have hadd : (⟨b, o2, none⟩ : Addr).add (k * size) = ⟨b, o2 + k * size, none⟩ := by unfold Addr.add; split <;> simp_all
      rw [Option.map_some, hadd]
      exact h.drop _
theorem blk_own {w : World} {g B : Nat} {e : TypeId} {size n : Nat} {vs : List Value} (h : BlkV w g e vs) (hB : B ≤ g) (hl : vs.length = n * size) (hn : n ≤ 1000000000) : w.ownsRow B e size (.slice (some ⟨g, 0, none⟩) n n) n vs :=
  ⟨hl, .inr ⟨g, n, vs.toArray, rfl, hB, h, Nat.le_refl _, by unfold maxLen; omega, by simp [hl], by simp [← hl]⟩⟩
theorem splice_all {zs X1 Y X2 : List Value} {i n : Nat} (h1 : X1.length = i) (h2 : Y.length = n) (hz : zs.length = i + n + X2.length) : splice (splice (splice zs 0 X1) i Y) (i + n) X2 = X1 ++ (Y ++ X2) := by
  subst h1 h2
  exact splice3 zs X1 Y X2 (by omega)
/-- A list of the call's own, and the world else as it was. -/
def OwnPost (e : TypeId) (size n : Nat) (vs : List Value) (w : World) (r : Ending) (w' : World) : Prop :=
  ∃ v, r = .returned v ∧ w'.ownsRow w.heap.size e size v n vs ∧ Below w.heap.size w w'

end Go.Proofs.Ytndjdmgncjiggaa
/- The walk of tree's with on values. (Printed by genke.py.) -/
namespace Go.Proofs.Ytndjdmgncjiggaa
open Go.RowKit Go.Shelf
set_option linter.unusedVariables false
set_option linter.unusedSimpArgs false

theorem flat_app (a b : List Cel) : flat (a ++ b) = flat a ++ flat b := by simp [flat]
theorem cells_len (c : Cel) : c.cells.length = 8 := rfl
theorem flat_drop (l : List Cel) (k : Nat) : flat (l.drop k) = (flat l).drop (k * 8) := by
  induction l generalizing k with
  | nil => simp [flat]
  | cons c l ih =>
    cases k with
    | zero => simp
    | succ k =>
      rw [List.drop_succ_cons, ih]
      simp only [flat, List.flatMap_cons]
      rw [show (k + 1) * 8 = c.cells.length + k * 8 by rw [cells_len]; omega, List.drop_length_add_append]
theorem flat_take (l : List Cel) (k : Nat) : flat (l.take k) = (flat l).take (k * 8) := by
  induction l generalizing k with
  | nil => simp [flat]
  | cons c l ih =>
    cases k with
    | zero => simp [flat]
    | succ k =>
      rw [List.take_succ_cons]
      have := ih k
      simp only [flat, List.flatMap_cons] at this ⊢
      rw [this, show (k + 1) * 8 = c.cells.length + k * 8 by rw [cells_len]; omega, List.take_length_add_append]
theorem flat_oneC (l : List Cel) : ∀ u ∈ flat l, u.oneCell' = true := by
  intro u hu
  simp only [flat, List.mem_flatMap] at hu
  obtain ⟨c, _, hc⟩ := hu
  exact cel_one c u hc

end Go.Proofs.Ytndjdmgncjiggaa
