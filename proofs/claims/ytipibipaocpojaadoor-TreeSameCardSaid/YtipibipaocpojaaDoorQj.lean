/- copy of elements of any size, as a law of the walk and as a step of a region that draws; the walks of tree's with. -/
import Derived.Test.YtipibipaocpojaaDoorQKc
import Derived.Laws.CopyOwn
namespace Go.Proofs.YtipibipaocpojaaDoor
open Go.RowKit Go.Shelf
set_option linter.unusedVariables false
set_option linter.unusedSimpArgs false

theorem run_copy_rowN {P : Program} (w : World) (dT sT ty elem : TypeId) (size : Nat) (g o dLen dCap : Nat) (a : Addr) (sLen sCap : Nat) (cur : Array Value) (t : TypeId) (cs : List Value)
    (hu : P.underlying dT = some (.slice elem)) (hs : (P.info? elem).map (·.size) = some size)
    (hg : w.heap[g]? = some (.cells cur t (0, 0))) (hn : cs.length = Nat.min sLen dLen * size)
    (hsrc : ∀ j v, cs[j]? = some v → w.cell? (a.add j) = some v) (hfit : o + cs.length ≤ cur.size) (h1 : ∀ v ∈ cs, v.oneCell' = true) :
    (Builtin.copy_ #[dT, sT] ty #[.slice (some ⟨g, o, none⟩) dLen dCap, .slice (some a) sLen sCap]).run P w =
      .ok (goInt (Nat.min sLen dLen)) (w.setRow g (cur.toList.take o ++ cs ++ cur.toList.drop (o + cs.length)).toArray) := by
  have hl := run_loadCells_list (P := P) w a cs hsrc
  have hst := run_storeCells_at P g o t cs 0 cur w hg (by simpa using hfit) h1
  cases hq : P.info? elem with
  | none => simp [hq] at hs
  | some i =>
    have hi : i.size = size := by simpa [hq] using hs
    simp [Builtin.copy_, run_underlying hu, Builtin.lenOf, Builtin.firstCells, sizeOf, typeInfo, hq, hi, ← hn, hl, hst]
theorem run_copy_noneN {P : Program} (w : World) (dT sT ty elem : TypeId) (size : Nat) (d a : Option Addr) (dLen dCap sLen sCap : Nat) (hu : P.underlying dT = some (.slice elem)) (hs : (P.info? elem).map (·.size) = some size) (hn : Nat.min sLen dLen = 0) :
    (Builtin.copy_ #[dT, sT] ty #[.slice d dLen dCap, .slice a sLen sCap]).run P w = .ok (goInt 0) w := by
  cases hq : P.info? elem with
  | none => simp [hq] at hs
  | some i =>
    have hl : ∀ (x : Addr), (loadCells x 0).run P w = .ok #[] w := fun x => by simpa using run_loadCells_list (P := P) w x [] (by simp)
    cases d <;> cases a <;> simp [Builtin.copy_, run_underlying hu, Builtin.lenOf, Builtin.firstCells, sizeOf, typeInfo, hq, hn, storeCells, hl]
theorem wp_spliceN {P : Program} {w : World} {o : Oper} {a : Act} {K : Act → World → Prop} {Q : Exit → Act → World → Prop} (d s : Operand) (dT sT : TypeId)
    (ho : o.op = .call { callee := .builtin .copy, args := #[d, s], argTypes := #[dT, sT] }) (elem : TypeId) (size : Nat) (hu : P.underlying dT = some (.slice elem)) (hsz : (P.info? elem).map (·.size) = some size)
    (dp sp : Option Addr) (dLen dCap sLen sCap : Nat) (hd : a.eval d = .slice dp dLen dCap) (hs : a.eval s = .slice sp sLen sCap)
    (g off : Nat) (cur : List Value) (t : TypeId) (hg : BlkV w g t cur) (cs : List Value) (hsp : 0 < size) (hn : cs.length = Nat.min sLen dLen * size)
    (hpos : 0 < cs.length → dp = some ⟨g, off, none⟩) (hr : RdV w sp cs)
    (hfit : off + cs.length ≤ cur.length) (h1 : ∀ v ∈ cs, v.oneCell' = true) (B : Nat) (w0 : World) (hb : RowKit.Below B w0 w) (hBg : B ≤ g)
    (h : ∀ w', RowKit.Hid (BlkV w' g t (splice cur off cs)) → RowKit.Below B w0 w' → K (a.put o.dst (goInt (Nat.min sLen dLen))) w') :
    Oper.wp P o a w K Q := by
  by_cases h0 : cs.length = 0
  · obtain rfl : cs = [] := List.eq_nil_of_length_eq_zero h0
    have hz : Nat.min sLen dLen = 0 := by
      rcases Nat.eq_zero_or_pos (Nat.min sLen dLen) with h | h
      · exact h
      · have := Nat.mul_pos h hsp; simp at hn; omega
    have hrun := run_copy_noneN (P := P) w dT sT o.type elem size dp sp dLen dCap sLen sCap hu hsz hz
    rw [hz] at h
    unfold Oper.wp
    simp [execOp, ho, resolve, invoke, builtin, hd, hs, hrun, Result.andThen]
    exact h w (show BlkV _ _ _ _ by unfold BlkV at hg ⊢; simpa [splice] using hg) hb
  · obtain rfl := hpos (by omega)
    obtain ⟨b, o', rfl, _, _⟩ := hr 0 (by omega)
    have hsrc : ∀ j v, cs[j]? = some v → w.cell? ((⟨b, o', none⟩ : Addr).add j) = some v := by
      intro j v hj
      have hjl : j < cs.length := (List.getElem?_eq_some_iff.1 hj).1
      have hadd : (⟨b, o', none⟩ : Addr).add j = ⟨b, o' + j, none⟩ := by unfold Addr.add; split <;> simp_all
      rw [hadd, hr.at j hjl, hj]
    have hrun := run_copy_rowN (P := P) w dT sT o.type elem size g off dLen dCap ⟨b, o', none⟩ sLen sCap cur.toArray t cs hu hsz hg hn hsrc (by simpa using hfit) h1
    unfold Oper.wp
    simp [execOp, ho, resolve, invoke, builtin, hd, hs, hrun, Result.andThen]
    exact h _ (show BlkV _ _ _ _ by unfold BlkV at hg ⊢; simpa [splice] using setRow_heap w g _ _ t _ hg) (below_setRow hb hBg _)
theorem wpl_spliceN {P : Program} {w : World} {ops : Array Oper} {rest : List Oper} {o : Oper} {a : Act} {Q : Exit → Act → World → Prop} (hgd : o.guard = none) (d s : Operand) (dT sT : TypeId)
    (ho : o.op = .call { callee := .builtin .copy, args := #[d, s], argTypes := #[dT, sT] }) (elem : TypeId) (size : Nat) (hu : P.underlying dT = some (.slice elem)) (hsz : (P.info? elem).map (·.size) = some size)
    (dp sp : Option Addr) (dLen dCap sLen sCap : Nat) (hd : a.eval d = .slice dp dLen dCap) (hs : a.eval s = .slice sp sLen sCap)
    (g off : Nat) (cur : List Value) (t : TypeId) (hg : BlkV w g t cur) (cs : List Value) (hsp : 0 < size) (hn : cs.length = Nat.min sLen dLen * size)
    (hpos : 0 < cs.length → dp = some ⟨g, off, none⟩) (hr : RdV w sp cs)
    (hfit : off + cs.length ≤ cur.length) (h1 : ∀ v ∈ cs, v.oneCell' = true) (B : Nat) (w0 : World) (hb : RowKit.Below B w0 w) (hBg : B ≤ g)
    (h : ∀ w', RowKit.Hid (BlkV w' g t (splice cur off cs)) → RowKit.Below B w0 w' → wpList P ops Q rest (a.put o.dst (goInt (Nat.min sLen dLen))) w') :
    wpList P ops Q (o :: rest) a w :=
  wpList_plain hgd fun _ hK => wp_spliceN d s dT sT ho elem size hu hsz dp sp dLen dCap sLen sCap hd hs g off cur t hg cs hsp hn hpos hr hfit h1 B w0 hb hBg (fun w' h1 h2 => hK _ _ (h w' h1 h2))
theorem step_spliceN {P : Program} {ops : Array Oper} {o : Oper} {a : Act} {w : World} {K : Act → World → Prop} {Q : Exit → Act → World → Prop} {E : Prop} (hgd : o.guard = none) (d s : Operand) (dT sT : TypeId)
    (ho : o.op = .call { callee := .builtin .copy, args := #[d, s], argTypes := #[dT, sT] }) (elem : TypeId) (size : Nat) (hu : P.underlying dT = some (.slice elem)) (hsz : (P.info? elem).map (·.size) = some size)
    (dp sp : Option Addr) (dLen dCap sLen sCap : Nat) (hd : a.eval d = .slice dp dLen dCap) (hs : a.eval s = .slice sp sLen sCap)
    (g off : Nat) (cur : List Value) (t : TypeId) (hg : BlkV w g t cur) (cs : List Value) (hsp : 0 < size) (hn : cs.length = Nat.min sLen dLen * size)
    (hpos : 0 < cs.length → dp = some ⟨g, off, none⟩) (hr : RdV w sp cs)
    (hfit : off + cs.length ≤ cur.length) (h1 : ∀ v ∈ cs, v.oneCell' = true) (B : Nat) (w0 : World) (hb : RowKit.Below B w0 w) (hBg : B ≤ g)
    (h : ∀ w', RowKit.Hid (BlkV w' g t (splice cur off cs)) → RowKit.Below B w0 w' → K (a.put o.dst (goInt (Nat.min sLen dLen))) w') :
    if Region.wanted o (yielded ops a.tmps) = true then Oper.wp P o a w K Q else E := by
  have hw : Region.wanted o (yielded ops a.tmps) = true := by simp [Region.wanted, hgd]
  rw [if_pos hw]
  exact wp_spliceN d s dT sT ho elem size hu hsz dp sp dLen dCap sLen sCap hd hs g off cur t hg cs hsp hn hpos hr hfit h1 B w0 hb hBg h

/-- A new list, whatever of. -/
theorem wpl_makeV {t e : TypeId} {z : Value} {size bytes : Nat} (ht : Tryd.prog.underlying t = some (.slice e)) (hi : (Tryd.prog.info? e).map (fun i => (i.zero, i.size, i.bytes)) = some (some z, size, bytes)) (hby : bytes ≤ 1000) (hzs : z.cells.size = size) (hsp : 0 < size) (w : World) {ops : Array Oper} {rest : List Oper} {o : Oper} {a : Act} {Q : Exit → Act → World → Prop}
    (hg : o.guard = none) (l c : Operand) (hop : o.op = Op.makeSlice t l c) (kl kc : IntKind) (L C : Int) (n : Nat)
    (hl : a.eval l = .int kl L) (hc : a.eval c = .int kc C) (hL : L = (n : Int)) (hC : C = (n : Int)) (hn : n ≤ 1000000000)
    (hK : ∀ w' vs, vs.length = n * size → BlkV w' w.heap.size e vs → Below w.heap.size w w' → wpList Tryd.prog ops Q rest (a.put o.dst (.slice (some ⟨w.heap.size, 0, none⟩) n n)) w') :
    wpList Tryd.prog ops Q (o :: rest) a w := by
  obtain ⟨i0, hi, hz0, hz1, hz2⟩ := info_parts hi
  refine wpList_make_full w hg l c t hop w.heap.size e i0 z size ht hi hz0 hz1 kl kc L C n hl hc hL hC (by
    rw [hz2]
    have h1 : n * bytes ≤ n * 1000 := Nat.mul_le_mul_left _ hby
    have h2 : bytes * n ≤ 1000 * n := Nat.mul_le_mul_right _ hby
    first | omega | (simp only [ge_iff_le]; exact Nat.le_trans h1 (by omega)) | (trace_state; omega)) (by unfold maxLen; omega) (Nat.le_refl _) ?_
  intro w' ho hgr
  obtain ⟨hl', h | ⟨g, cap, cur, e', _, hh, _, _, hs, ht⟩⟩ := ho
  · exact absurd h.1 (by simp)
  · simp only [Value.slice.injEq, Option.some.injEq, Addr.mk.injEq] at e'
    obtain ⟨⟨rfl, _⟩, _, rfl⟩ := e'
    exact hK w' cur.toList (by simp [hs]) (by unfold BlkV; rw [hh]) ((Below.refl _ _).grown hgr (Nat.le_refl _) (fun k h => by cases h))
/-- Where the rest of a list begins. -/
theorem rest_of {w : World} {size n cap k q : Nat} {o : Option Addr} {vs : List Value} (h : RdV w o vs) (hq : q = k * size) (hl : vs.length = n * size) (hk : k ≤ n) (hc : n ≤ cap) :
    ∃ ad, (if cap = k then o else Option.map (fun x => x.add q) o) = ad ∧ RdV w ad (vs.drop (k * size)) := by
  refine ⟨_, rfl, ?_⟩
  by_cases hd : vs.drop (k * size) = []
  · rw [hd]; exact RdV.nil _ _
  · have hp : 0 < vs.length := by
      rcases Nat.eq_zero_or_pos vs.length with h | h
      · rw [List.eq_nil_of_length_eq_zero h] at hd; simp at hd
      · exact h
    obtain ⟨b, o2, rfl, _⟩ := h.shape hp
    by_cases hck : cap = k
    · exfalso; apply hd
      rw [List.drop_of_length_le]
      rw [hl, show k = n by omega]; exact Nat.le_refl _
    · rw [if_neg hck, hq]
      have hadd : (⟨b, o2, none⟩ : Addr).add (k * size) = ⟨b, o2 + k * size, none⟩ := by unfold Addr.add; split <;> simp_all
      rw [Option.map_some, hadd]
      exact h.drop _
theorem blk_own {w : World} {g B : Nat} {e : TypeId} {size n : Nat} {vs : List Value} (h : BlkV w g e vs) (hB : B ≤ g) (hl : vs.length = n * size) (hn : n ≤ 1000000000) : w.ownsRow B e size (.slice (some ⟨g, 0, none⟩) n n) n vs :=
  ⟨hl, .inr ⟨g, n, vs.toArray, rfl, hB, h, Nat.le_refl _, by unfold maxLen; omega, by simp [hl], by simp [← hl]⟩⟩
theorem splice_all {zs X1 Y X2 : List Value} {i n : Nat} (h1 : X1.length = i) (h2 : Y.length = n) (hz : zs.length = i + n + X2.length) : splice (splice (splice zs 0 X1) i Y) (i + n) X2 = X1 ++ (Y ++ X2) := by
  subst h1 h2
  exact splice3 zs X1 Y X2 (by omega)
/-- A list of the call's own, and the world else as it was. -/
def OwnPost (e : TypeId) (size n : Nat) (vs : List Value) (w : World) (r : Ending) (w' : World) : Prop :=
  ∃ v, r = .returned v ∧ w'.ownsRow w.heap.size e size v n vs ∧ Below w.heap.size w w'

set_option maxHeartbeats 4000000 in
set_option maxRecDepth 100000 in
/-- A new list: l with others in place of what stands from one place to ahead of another. -/
theorem withS_any (ad : Option Addr) (n cap : Nat) (l : List ByteArray) (i j : Nat) (ad' : Option Addr) (n' cap' : Nat) (m : List ByteArray) (w : World)
    (hl : l.length = n) (hcap : n ≤ cap) (hn : n ≤ 1000000) (hr : RdV w ad (sv l)) (hm : m.length = n') (hcap' : n' ≤ cap') (hn' : n' ≤ 1000000) (hr' : RdV w ad' (sv m)) (hij : i ≤ j) (hjn : j ≤ n) :
    Calls Tryd.prog 26 #[.slice ad n cap, .int .i64 (i : Int), .int .i64 (j : Int), .slice ad' n' cap'] w (OwnPost 9 1 (i + n' + (n - j)) (sv (l.take i ++ m ++ l.drop j)) w) := by
  obtain ⟨adx, hx1, hx2⟩ := rest_of (size := 1) (o := ad) (n := n) (cap := cap) (k := j) (q := j) hr (by omega) (by rw [sv_len, hl]; omega) hjn hcap
  have c1 : (i : Int) ≤ (n : Int) := by omega
  have c2 : (j : Int) ≤ (n : Int) := by omega
  have c3 : (i : Int) ≤ (cap : Int) := by omega
  have c4 : (n : Int) ≤ (cap : Int) := by omega
  have c5 : (0 : Int) ≤ (i : Int) := by omega
  have c6 : (0 : Int) ≤ (j : Int) := by omega
  have HR := Lib.hid hr; have HR' := Lib.hid hr'; have HL := Lib.hid hl; have HM := Lib.hid hm; have HX := Lib.hid hx2
  clear hr hr' hl hm hx2
  obtain ⟨N, hN⟩ : ∃ N, i + n' + (n - j) = N := ⟨_, rfl⟩
  have c7 : (i : Int) ≤ (N : Int) := by omega
  have c8 : (i : Int) + (n' : Int) ≤ (N : Int) := by omega
  have c9 : (0 : Int) ≤ (i : Int) + (n' : Int) := by omega
  have e1 : (i : Int) + (n' : Int) + (n : Int) - (j : Int) = (N : Int) := by omega
  obtain ⟨X1, hX1⟩ : ∃ x, x = sv (l.take i) := ⟨_, rfl⟩
  obtain ⟨Y, hY⟩ : ∃ x, x = sv m := ⟨_, rfl⟩
  obtain ⟨X2, hX2⟩ : ∃ x, x = (sv l).drop (j * 1) := ⟨_, rfl⟩
  have HA := Lib.hid (show X1.length = Nat.min i N * 1 by rw [hX1, sv_len, List.length_take, HL.out, Nat.mul_one]; show min i n = min i N; omega)
  have HB := Lib.hid (show Y.length = Nat.min n' (N - i) * 1 by rw [hY, sv_len, HM.out, Nat.mul_one]; show n' = min n' (N - i); omega)
  have HC := Lib.hid (show X2.length = Nat.min (n - j) (N - (i + n')) * 1 by rw [hX2, List.length_drop, sv_len, HL.out, Nat.mul_one, Nat.mul_one]; show n - j = min (n - j) (N - (i + n')); omega)
  have HA2 := Lib.hid (show X1.length = i by rw [HA.out, Nat.mul_one]; show min i N = i; omega)
  have HB2 := Lib.hid (show Y.length = n' by rw [HB.out, Nat.mul_one]; show min n' (N - i) = n'; omega)
  have HC2 := Lib.hid (show X2.length = n - j by rw [HC.out, Nat.mul_one]; show min (n - j) (N - (i + n')) = n - j; omega)
  have HR1 := Lib.hid (fun W (h : Below w.heap.size w W) => (by rw [hX1]; have := (HR.out.take i).on h; simpa [sv, List.map_take] using this : RdV W ad X1))
  have HRY := Lib.hid (fun W (h : Below w.heap.size w W) => (by rw [hY]; exact HR'.out.on h : RdV W ad' Y))
  have HR2 := Lib.hid (fun W (h : Below w.heap.size w W) => (by rw [hX2]; exact HX.out.on h : RdV W adx X2))
  have HO1 := Lib.hid (show ∀ v ∈ X1, v.oneCell' = true by rw [hX1]; exact sv_one _)
  have HOY := Lib.hid (show ∀ v ∈ Y, v.oneCell' = true by rw [hY]; exact sv_one _)
  have HO2 := Lib.hid (show ∀ v ∈ X2, v.oneCell' = true by rw [hX2]; intro v hv; exact sv_one l v (List.mem_of_mem_drop hv))
  have HE := Lib.hid (show X1 ++ (Y ++ X2) = sv (l.take i ++ m ++ l.drop j) by rw [hX1, hY, hX2]; simp [sv, List.map_take, List.map_drop])
  have hmx : Tryd.prog.follows .mixedOrders = true := by kernel_rfl
  have htn : ((i : Int) + (n' : Int)).toNat = i + n' := by omega
  have hcs : (N = i ∧ n' = 0 ∧ n - j = 0) ∨ (¬ N = i ∧ N = i + n' ∧ n - j = 0) ∨ (¬ N = i ∧ ¬ N = i + n') := by omega
  have HN := Lib.hid hN
  rw [hN]
  clear hN hX1 hY hX2 HR HR' HX
  have hszS : (Tryd.prog.info? 9).map (·.size) = some 1 := by kernel_rfl
  rcases hcs with ⟨h1, h2, h3⟩ | ⟨h1, h2, h3⟩ | ⟨h1, h2⟩
  · subst h1 h2
    have hX0 : X2 = [] := List.eq_nil_of_length_eq_zero (by rw [HC2.out, h3])
    have hY0 : Y = [] := List.eq_nil_of_length_eq_zero HB2.out
    have HX0 := Lib.hid hX0
    have HY0 := Lib.hid hY0
    have HYN := Lib.hid (show ¬ 0 < Y.length by rw [hY0]; decide)
    have HYL := Lib.hid (show Y.length = Nat.min 0 0 * 1 by rw [hY0]; rfl)
    have H3 := Lib.hid h3
    clear hX0 hY0 h3 htn
    go_enter Tryd.func26, Tryd.ntmps26
    go_wp2_with (first
      | (at_make; refine wpl_makeV Tryd.underlying25 info_string (by decide) rfl (by decide) _ rfl _ _ rfl _ _ _ _ N rfl rfl (by omega) (by omega) (by omega) ?_; intro w1 zs hzl hzb hb1)
      | (with_reducible refine wpl_spliceN rfl (.tmp 22) (.tmp 25) _ _ rfl 9 1 Tryd.underlying25 hszS _ _ _ _ _ _ rfl rfl _ 0 _ _ hzb X1 (by decide) HA.out (fun _ => rfl) (HR1.out _ hb1) (by rw [HA2.out, hzl]; omega) HO1.out _ w hb1 (Nat.le_refl _) ?_; intro w2 hz2 hb2)
      | (with_reducible refine wpl_spliceN rfl (.tmp 29) (.tmp 30) _ _ rfl 9 1 Tryd.underlying25 hszS _ _ _ _ _ _ rfl rfl _ N _ _ hz2.out Y (by decide) HYL.out (fun h => absurd h HYN.out) (HRY.out _ hb2) (by rw [length_splice _ _ _ (by rw [HA2.out, hzl]; omega), HB2.out, hzl]; omega) HOY.out _ w hb2 (Nat.le_refl _) ?_; intro w3 hz3 hb3))

    have HZ3 := Lib.hid hzl
    clear hzb hb1 hb2 hzl
    have HB3 := Lib.hid (show BlkV w3.drew w.heap.size 9 (splice (splice zs 0 X1) N Y) from hz3.out)
    have HD3 := Lib.hid (show Below w.heap.size w w3.drew from hb3.drew)
    have HFIT := Lib.hid (show N + 0 + X2.length ≤ (splice (splice zs 0 X1) N Y).length by rw [length_splice _ _ _ (by rw [length_splice _ _ _ (by rw [HA2.out, HZ3.out]; have := H3.out; omega), HB2.out, HZ3.out]; have := H3.out; omega), length_splice _ _ _ (by rw [HA2.out, HZ3.out]; have := H3.out; omega), HC2.out, HZ3.out]; have := H3.out; omega)
    go_region_law (refine step_spliceN rfl (.tmp 34) (.tmp 37) _ _ rfl 9 1 Tryd.underlying25 hszS (some ⟨w.heap.size, 0, none⟩) adx 0 0 (n - j) (cap - j) (by simp [Act.eval, Act.put]) (by simp [Act.eval, Act.put]) w.heap.size (N + 0) (splice (splice zs 0 X1) N Y) 9 HB3.out X2 (by decide) (by rw [HX0.out]; simp) (fun h => by rw [HX0.out] at h; cases h) (HR2.out _ HD3.out) HFIT.out HO2.out w.heap.size w HD3.out (Nat.le_refl _) ?_; intro w4 hz4 hb4)
    have HF := Lib.hid (show OwnPost 9 1 N (sv (l.take N ++ m ++ l.drop j)) w (.returned (.slice (some ⟨w.heap.size, 0, none⟩) N N)) w4 from by
      refine ⟨_, rfl, ?_, hb4⟩
      have := hz4.out
      rw [splice_all HA2.out HB2.out (by rw [HZ3.out, HC2.out]; have := H3.out; omega), HE.out] at this
      refine blk_own this (Nat.le_refl _) ?_ (by omega)
      rw [← HE.out, List.length_append, List.length_append, HA2.out, HB2.out, HC2.out]; have := H3.out; omega)
    clear hz4 hb4
    go_wp2
    go_ret
    exact HF.out
  · have hh1 : ¬ i = N := fun h => h1 h.symm
    have hX0 : X2 = [] := List.eq_nil_of_length_eq_zero (by rw [HC2.out, h3])
    have hsub : N - (i + n') = 0 := by omega
    have HX0 := Lib.hid hX0
    rw [← h2] at htn
    have H2 := Lib.hid h2
    have H3 := Lib.hid h3
    clear hX0 h2 h3 hsub
    go_enter Tryd.func26, Tryd.ntmps26
    go_wp2_with (first
      | (at_make; refine wpl_makeV Tryd.underlying25 info_string (by decide) rfl (by decide) _ rfl _ _ rfl _ _ _ _ N rfl rfl (by omega) (by omega) (by omega) ?_; intro w1 zs hzl hzb hb1)
      | (with_reducible refine wpl_spliceN rfl (.tmp 22) (.tmp 25) _ _ rfl 9 1 Tryd.underlying25 hszS _ _ _ _ _ _ rfl rfl _ 0 _ _ hzb X1 (by decide) HA.out (fun _ => rfl) (HR1.out _ hb1) (by rw [HA2.out, hzl]; have := H2.out; omega) HO1.out _ w hb1 (Nat.le_refl _) ?_; intro w2 hz2 hb2)
      | (with_reducible refine wpl_spliceN rfl (.tmp 29) (.tmp 30) _ _ rfl 9 1 Tryd.underlying25 hszS _ _ _ _ _ _ rfl rfl _ i _ _ hz2.out Y (by decide) HB.out (fun _ => rfl) (HRY.out _ hb2) (by rw [length_splice _ _ _ (by rw [HA2.out, hzl]; have := H2.out; omega), HB2.out, hzl]; have := H2.out; omega) HOY.out _ w hb2 (Nat.le_refl _) ?_; intro w3 hz3 hb3))
    have HZ3 := Lib.hid hzl
    clear hzb hb1 hb2 hzl
    have HB3 := Lib.hid (show BlkV w3.drew w.heap.size 9 (splice (splice zs 0 X1) i Y) from hz3.out)
    have HD3 := Lib.hid (show Below w.heap.size w w3.drew from hb3.drew)
    have HFIT := Lib.hid (show i + n' + X2.length ≤ (splice (splice zs 0 X1) i Y).length by rw [length_splice _ _ _ (by rw [length_splice _ _ _ (by rw [HA2.out, HZ3.out]; have := H2.out; have := H3.out; omega), HB2.out, HZ3.out]; have := H2.out; have := H3.out; omega), length_splice _ _ _ (by rw [HA2.out, HZ3.out]; have := H2.out; have := H3.out; omega), HC2.out, HZ3.out]; have := H2.out; have := H3.out; omega)
    go_region_law (refine step_spliceN rfl (.tmp 34) (.tmp 37) _ _ rfl 9 1 Tryd.underlying25 hszS (some ⟨w.heap.size, 0, none⟩) adx 0 0 (n - j) (cap - j) (by simp [Act.eval, Act.put]) (by simp [Act.eval, Act.put]) w.heap.size (i + n') (splice (splice zs 0 X1) i Y) 9 HB3.out X2 (by decide) (by rw [HX0.out]; simp) (fun h => by rw [HX0.out] at h; cases h) (HR2.out _ HD3.out) HFIT.out HO2.out w.heap.size w HD3.out (Nat.le_refl _) ?_; intro w4 hz4 hb4)
    have HF := Lib.hid (show OwnPost 9 1 N (sv (l.take i ++ m ++ l.drop j)) w (.returned (.slice (some ⟨w.heap.size, 0, none⟩) N N)) w4 from by
      refine ⟨_, rfl, ?_, hb4⟩
      have := hz4.out
      rw [splice_all HA2.out HB2.out (by rw [HZ3.out, HC2.out]; have := H2.out; have := H3.out; omega), HE.out] at this
      refine blk_own this (Nat.le_refl _) ?_ (by omega)
      rw [← HE.out, List.length_append, List.length_append, HA2.out, HB2.out, HC2.out]; have := H2.out; have := H3.out; omega)
    clear hz4 hb4
    go_wp2
    go_ret
    exact HF.out
  · have hh1 : ¬ i = N := fun h => h1 h.symm
    have hh2 : ¬ i + n' = N := fun h => h2 h.symm
    go_enter Tryd.func26, Tryd.ntmps26
    go_wp2_with (first
      | (at_make; refine wpl_makeV Tryd.underlying25 info_string (by decide) rfl (by decide) _ rfl _ _ rfl _ _ _ _ N rfl rfl (by omega) (by omega) (by omega) ?_; intro w1 zs hzl hzb hb1)
      | (with_reducible refine wpl_spliceN rfl (.tmp 22) (.tmp 25) _ _ rfl 9 1 Tryd.underlying25 hszS _ _ _ _ _ _ rfl rfl _ 0 _ _ hzb X1 (by decide) HA.out (fun _ => rfl) (HR1.out _ hb1) (by rw [HA2.out, hzl]; omega) HO1.out _ w hb1 (Nat.le_refl _) ?_; intro w2 hz2 hb2)
      | (with_reducible refine wpl_spliceN rfl (.tmp 29) (.tmp 30) _ _ rfl 9 1 Tryd.underlying25 hszS _ _ _ _ _ _ rfl rfl _ i _ _ hz2.out Y (by decide) HB.out (fun _ => rfl) (HRY.out _ hb2) (by rw [length_splice _ _ _ (by rw [HA2.out, hzl]; omega), HB2.out, hzl]; omega) HOY.out _ w hb2 (Nat.le_refl _) ?_; intro w3 hz3 hb3))
    have HZ3 := Lib.hid hzl
    clear hzb hb1 hb2 hzl
    have HB3 := Lib.hid (show BlkV w3.drew w.heap.size 9 (splice (splice zs 0 X1) i Y) from hz3.out)
    have HD3 := Lib.hid (show Below w.heap.size w w3.drew from hb3.drew)
    have HFIT := Lib.hid (show i + n' + X2.length ≤ (splice (splice zs 0 X1) i Y).length by rw [length_splice _ _ _ (by rw [length_splice _ _ _ (by rw [HA2.out, HZ3.out]; omega), HB2.out, HZ3.out]; omega), length_splice _ _ _ (by rw [HA2.out, HZ3.out]; omega), HC2.out, HZ3.out]; omega)
    go_region_law (refine step_spliceN rfl (.tmp 34) (.tmp 37) _ _ rfl 9 1 Tryd.underlying25 hszS (some ⟨w.heap.size, i + n', none⟩) adx (N - (i + n')) (N - (i + n')) (n - j) (cap - j) (by simp [Act.eval, Act.put]) (by simp [Act.eval, Act.put]) w.heap.size (i + n') (splice (splice zs 0 X1) i Y) 9 HB3.out X2 (by decide) HC.out (fun _ => rfl) (HR2.out _ HD3.out) HFIT.out HO2.out w.heap.size w HD3.out (Nat.le_refl _) ?_; intro w4 hz4 hb4)
    have HF := Lib.hid (show OwnPost 9 1 N (sv (l.take i ++ m ++ l.drop j)) w (.returned (.slice (some ⟨w.heap.size, 0, none⟩) N N)) w4 from by
      refine ⟨_, rfl, ?_, hb4⟩
      have := hz4.out
      rw [splice_all HA2.out HB2.out (by rw [HZ3.out, HC2.out]; omega), HE.out] at this
      refine blk_own this (Nat.le_refl _) ?_ (by omega)
      rw [← HE.out, List.length_append, List.length_append, HA2.out, HB2.out, HC2.out]; omega)
    clear hz4 hb4
    go_wp2
    go_ret
    exact HF.out
end Go.Proofs.YtipibipaocpojaaDoor
/- The walk of tree's with on values. (Printed by genke.py.) -/
namespace Go.Proofs.YtipibipaocpojaaDoor
open Go.RowKit Go.Shelf
set_option linter.unusedVariables false
set_option linter.unusedSimpArgs false

theorem flat_app (a b : List Cel) : flat (a ++ b) = flat a ++ flat b := by simp [flat]
theorem cells_len (c : Cel) : c.cells.length = 8 := rfl
theorem flat_drop (l : List Cel) (k : Nat) : flat (l.drop k) = (flat l).drop (k * 8) := by
  induction l generalizing k with
  | nil => simp [flat]
  | cons c l ih =>
    cases k with
    | zero => simp
    | succ k =>
      rw [List.drop_succ_cons, ih]
      simp only [flat, List.flatMap_cons]
      rw [show (k + 1) * 8 = c.cells.length + k * 8 by rw [cells_len]; omega, List.drop_length_add_append]
theorem flat_take (l : List Cel) (k : Nat) : flat (l.take k) = (flat l).take (k * 8) := by
  induction l generalizing k with
  | nil => simp [flat]
  | cons c l ih =>
    cases k with
    | zero => simp [flat]
    | succ k =>
      rw [List.take_succ_cons]
      have := ih k
      simp only [flat, List.flatMap_cons] at this ⊢
      rw [this, show (k + 1) * 8 = c.cells.length + k * 8 by rw [cells_len]; omega, List.take_length_add_append]
theorem flat_oneC (l : List Cel) : ∀ u ∈ flat l, u.oneCell' = true := by
  intro u hu
  simp only [flat, List.mem_flatMap] at hu
  obtain ⟨c, _, hc⟩ := hu
  exact cel_one c u hc

set_option maxHeartbeats 4000000 in
set_option maxRecDepth 100000 in
/-- A new list: l with others in place of what stands from one place to ahead of another. -/
theorem withT_any (ad : Option Addr) (n cap : Nat) (l : List Cel) (i j : Nat) (ad' : Option Addr) (n' cap' : Nat) (m : List Cel) (w : World)
    (hl : l.length = n) (hcap : n ≤ cap) (hn : n ≤ 1000000) (hr : RdV w ad (flat l)) (hm : m.length = n') (hcap' : n' ≤ cap') (hn' : n' ≤ 1000000) (hr' : RdV w ad' (flat m)) (hij : i ≤ j) (hjn : j ≤ n) :
    Calls Tryd.prog 27 #[.slice ad n cap, .int .i64 (i : Int), .int .i64 (j : Int), .slice ad' n' cap'] w (OwnPost 28 8 (i + n' + (n - j)) (flat (l.take i ++ m ++ l.drop j)) w) := by
  obtain ⟨adx, hx1, hx2⟩ := rest_of (size := 8) (o := ad) (n := n) (cap := cap) (k := j) (q := j * 8) hr rfl (by rw [flat_len, hl]) hjn hcap
  have c1 : (i : Int) ≤ (n : Int) := by omega
  have c2 : (j : Int) ≤ (n : Int) := by omega
  have c3 : (i : Int) ≤ (cap : Int) := by omega
  have c4 : (n : Int) ≤ (cap : Int) := by omega
  have c5 : (0 : Int) ≤ (i : Int) := by omega
  have c6 : (0 : Int) ≤ (j : Int) := by omega
  have HR := Lib.hid hr; have HR' := Lib.hid hr'; have HL := Lib.hid hl; have HM := Lib.hid hm; have HX := Lib.hid hx2
  clear hr hr' hl hm hx2
  obtain ⟨N, hN⟩ : ∃ N, i + n' + (n - j) = N := ⟨_, rfl⟩
  have c7 : (i : Int) ≤ (N : Int) := by omega
  have c8 : (i : Int) + (n' : Int) ≤ (N : Int) := by omega
  have c9 : (0 : Int) ≤ (i : Int) + (n' : Int) := by omega
  have e1 : (i : Int) + (n' : Int) + (n : Int) - (j : Int) = (N : Int) := by omega
  obtain ⟨X1, hX1⟩ : ∃ x, x = flat (l.take i) := ⟨_, rfl⟩
  obtain ⟨Y, hY⟩ : ∃ x, x = flat m := ⟨_, rfl⟩
  obtain ⟨X2, hX2⟩ : ∃ x, x = (flat l).drop (j * 8) := ⟨_, rfl⟩
  have HA := Lib.hid (show X1.length = Nat.min i N * 8 by rw [hX1, flat_len, List.length_take, HL.out]; show min i n * 8 = min i N * 8; omega)
  have HB := Lib.hid (show Y.length = Nat.min n' (N - i) * 8 by rw [hY, flat_len, HM.out]; show n' * 8 = min n' (N - i) * 8; omega)
  have HC := Lib.hid (show X2.length = Nat.min (n - j) (N - (i + n')) * 8 by rw [hX2, List.length_drop, flat_len, HL.out]; show n * 8 - j * 8 = min (n - j) (N - (i + n')) * 8; omega)
  have HA2 := Lib.hid (show X1.length = i * 8 by rw [HA.out]; show min i N * 8 = i * 8; omega)
  have HB2 := Lib.hid (show Y.length = n' * 8 by rw [HB.out]; show min n' (N - i) * 8 = n' * 8; omega)
  have HC2 := Lib.hid (show X2.length = (n - j) * 8 by rw [HC.out]; show min (n - j) (N - (i + n')) * 8 = (n - j) * 8; omega)
  have HR1 := Lib.hid (fun W (h : Below w.heap.size w W) => (by rw [hX1, flat_take]; exact (HR.out.take _).on h : RdV W ad X1))
  have HRY := Lib.hid (fun W (h : Below w.heap.size w W) => (by rw [hY]; exact HR'.out.on h : RdV W ad' Y))
  have HR2 := Lib.hid (fun W (h : Below w.heap.size w W) => (by rw [hX2]; exact HX.out.on h : RdV W adx X2))
  have HO1 := Lib.hid (show ∀ v ∈ X1, v.oneCell' = true by rw [hX1]; exact flat_oneC _)
  have HOY := Lib.hid (show ∀ v ∈ Y, v.oneCell' = true by rw [hY]; exact flat_oneC _)
  have HO2 := Lib.hid (show ∀ v ∈ X2, v.oneCell' = true by rw [hX2]; intro v hv; exact flat_oneC l v (List.mem_of_mem_drop hv))
  have HE := Lib.hid (show X1 ++ (Y ++ X2) = flat (l.take i ++ m ++ l.drop j) by rw [hX1, hY, hX2, flat_app, flat_app, flat_drop, List.append_assoc])
  have hmx : Tryd.prog.follows .mixedOrders = true := by kernel_rfl
  have htn : ((i : Int) + (n' : Int)).toNat = i + n' := by omega
  have hcs : (N = i ∧ n' = 0 ∧ n - j = 0) ∨ (¬ N = i ∧ N = i + n' ∧ n - j = 0) ∨ (¬ N = i ∧ ¬ N = i + n') := by omega
  have HN := Lib.hid hN
  rw [hN]
  clear hN hX1 hY hX2 HR HR' HX
  have hszS : (Tryd.prog.info? 28).map (·.size) = some 8 := by kernel_rfl
  rcases hcs with ⟨h1, h2, h3⟩ | ⟨h1, h2, h3⟩ | ⟨h1, h2⟩
  · subst h1 h2
    have hX0 : X2 = [] := List.eq_nil_of_length_eq_zero (by rw [HC2.out, h3])
    have hY0 : Y = [] := List.eq_nil_of_length_eq_zero (by rw [HB2.out])
    have HX0 := Lib.hid hX0
    have HY0 := Lib.hid hY0
    have HYN := Lib.hid (show ¬ 0 < Y.length by rw [hY0]; decide)
    have HYL := Lib.hid (show Y.length = Nat.min 0 0 * 8 by rw [hY0]; rfl)
    have H3 := Lib.hid h3
    clear hX0 hY0 h3 htn
    go_enter Tryd.func27, Tryd.ntmps27
    go_wp2_with (first
      | (at_make; refine wpl_makeV Tryd.underlying26 info_tree (by decide) rfl (by decide) _ rfl _ _ rfl _ _ _ _ N rfl rfl (by omega) (by omega) (by omega) ?_; intro w1 zs hzl hzb hb1)
      | (with_reducible refine wpl_spliceN rfl (.tmp 22) (.tmp 25) _ _ rfl 28 8 Tryd.underlying26 hszS _ _ _ _ _ _ rfl rfl _ 0 _ _ hzb X1 (by decide) HA.out (fun _ => rfl) (HR1.out _ hb1) (by rw [HA2.out, hzl]; omega) HO1.out _ w hb1 (Nat.le_refl _) ?_; intro w2 hz2 hb2)
      | (with_reducible refine wpl_spliceN rfl (.tmp 29) (.tmp 30) _ _ rfl 28 8 Tryd.underlying26 hszS _ _ _ _ _ _ rfl rfl _ (N * 8) _ _ hz2.out Y (by decide) HYL.out (fun h => absurd h HYN.out) (HRY.out _ hb2) (by rw [length_splice _ _ _ (by rw [HA2.out, hzl]; omega), HB2.out, hzl]; omega) HOY.out _ w hb2 (Nat.le_refl _) ?_; intro w3 hz3 hb3))

    have HZ3 := Lib.hid hzl
    clear hzb hb1 hb2 hzl
    have HB3 := Lib.hid (show BlkV w3.drew w.heap.size 28 (splice (splice zs 0 X1) (N * 8) Y) from hz3.out)
    have HD3 := Lib.hid (show Below w.heap.size w w3.drew from hb3.drew)
    have HFIT := Lib.hid (show (N + 0) * 8 + X2.length ≤ (splice (splice zs 0 X1) (N * 8) Y).length by rw [length_splice _ _ _ (by rw [length_splice _ _ _ (by rw [HA2.out, HZ3.out]; have := H3.out; omega), HB2.out, HZ3.out]; have := H3.out; omega), length_splice _ _ _ (by rw [HA2.out, HZ3.out]; have := H3.out; omega), HC2.out, HZ3.out]; have := H3.out; omega)
    go_region_law (refine step_spliceN rfl (.tmp 34) (.tmp 37) _ _ rfl 28 8 Tryd.underlying26 hszS (some ⟨w.heap.size, 0, none⟩) adx 0 0 (n - j) (cap - j) (by simp [Act.eval, Act.put]) (by simp [Act.eval, Act.put]) w.heap.size ((N + 0) * 8) (splice (splice zs 0 X1) (N * 8) Y) 28 HB3.out X2 (by decide) (by rw [HX0.out]; simp) (fun h => by rw [HX0.out] at h; cases h) (HR2.out _ HD3.out) HFIT.out HO2.out w.heap.size w HD3.out (Nat.le_refl _) ?_; intro w4 hz4 hb4)
    have HF := Lib.hid (show OwnPost 28 8 N (flat (l.take N ++ m ++ l.drop j)) w (.returned (.slice (some ⟨w.heap.size, 0, none⟩) N N)) w4 from by
      refine ⟨_, rfl, ?_, hb4⟩
      have := hz4.out
      rw [show (N + 0) * 8 = N * 8 + 0 * 8 by omega] at this
      rw [splice_all HA2.out HB2.out (by rw [HZ3.out, HC2.out]; have := H3.out; omega), HE.out] at this
      refine blk_own this (Nat.le_refl _) ?_ (by omega)
      rw [← HE.out, List.length_append, List.length_append, HA2.out, HB2.out, HC2.out]; have := H3.out; omega)
    clear hz4 hb4
    go_wp2
    go_ret
    exact HF.out
  · have hh1 : ¬ i = N := fun h => h1 h.symm
    have hX0 : X2 = [] := List.eq_nil_of_length_eq_zero (by rw [HC2.out, h3])
    have hsub : N - (i + n') = 0 := by omega
    have HX0 := Lib.hid hX0
    rw [← h2] at htn
    have H2 := Lib.hid h2
    have H3 := Lib.hid h3
    clear hX0 h2 h3 hsub
    go_enter Tryd.func27, Tryd.ntmps27
    go_wp2_with (first
      | (at_make; refine wpl_makeV Tryd.underlying26 info_tree (by decide) rfl (by decide) _ rfl _ _ rfl _ _ _ _ N rfl rfl (by omega) (by omega) (by omega) ?_; intro w1 zs hzl hzb hb1)
      | (with_reducible refine wpl_spliceN rfl (.tmp 22) (.tmp 25) _ _ rfl 28 8 Tryd.underlying26 hszS _ _ _ _ _ _ rfl rfl _ 0 _ _ hzb X1 (by decide) HA.out (fun _ => rfl) (HR1.out _ hb1) (by rw [HA2.out, hzl]; have := H2.out; omega) HO1.out _ w hb1 (Nat.le_refl _) ?_; intro w2 hz2 hb2)
      | (with_reducible refine wpl_spliceN rfl (.tmp 29) (.tmp 30) _ _ rfl 28 8 Tryd.underlying26 hszS _ _ _ _ _ _ rfl rfl _ (i * 8) _ _ hz2.out Y (by decide) HB.out (fun _ => rfl) (HRY.out _ hb2) (by rw [length_splice _ _ _ (by rw [HA2.out, hzl]; have := H2.out; omega), HB2.out, hzl]; have := H2.out; omega) HOY.out _ w hb2 (Nat.le_refl _) ?_; intro w3 hz3 hb3))
    have HZ3 := Lib.hid hzl
    clear hzb hb1 hb2 hzl
    have HB3 := Lib.hid (show BlkV w3.drew w.heap.size 28 (splice (splice zs 0 X1) (i * 8) Y) from hz3.out)
    have HD3 := Lib.hid (show Below w.heap.size w w3.drew from hb3.drew)
    have HFIT := Lib.hid (show (i + n') * 8 + X2.length ≤ (splice (splice zs 0 X1) (i * 8) Y).length by rw [length_splice _ _ _ (by rw [length_splice _ _ _ (by rw [HA2.out, HZ3.out]; have := H2.out; have := H3.out; omega), HB2.out, HZ3.out]; have := H2.out; have := H3.out; omega), length_splice _ _ _ (by rw [HA2.out, HZ3.out]; have := H2.out; have := H3.out; omega), HC2.out, HZ3.out]; have := H2.out; have := H3.out; omega)
    go_region_law (refine step_spliceN rfl (.tmp 34) (.tmp 37) _ _ rfl 28 8 Tryd.underlying26 hszS (some ⟨w.heap.size, 0, none⟩) adx 0 0 (n - j) (cap - j) (by simp [Act.eval, Act.put]) (by simp [Act.eval, Act.put]) w.heap.size ((i + n') * 8) (splice (splice zs 0 X1) (i * 8) Y) 28 HB3.out X2 (by decide) (by rw [HX0.out]; simp) (fun h => by rw [HX0.out] at h; cases h) (HR2.out _ HD3.out) HFIT.out HO2.out w.heap.size w HD3.out (Nat.le_refl _) ?_; intro w4 hz4 hb4)
    have HF := Lib.hid (show OwnPost 28 8 N (flat (l.take i ++ m ++ l.drop j)) w (.returned (.slice (some ⟨w.heap.size, 0, none⟩) N N)) w4 from by
      refine ⟨_, rfl, ?_, hb4⟩
      have := hz4.out
      rw [show (i + n') * 8 = i * 8 + n' * 8 by omega] at this
      rw [splice_all HA2.out HB2.out (by rw [HZ3.out, HC2.out]; have := H2.out; have := H3.out; omega), HE.out] at this
      refine blk_own this (Nat.le_refl _) ?_ (by omega)
      rw [← HE.out, List.length_append, List.length_append, HA2.out, HB2.out, HC2.out]; have := H2.out; have := H3.out; omega)
    clear hz4 hb4
    go_wp2
    go_ret
    exact HF.out
  · have hh1 : ¬ i = N := fun h => h1 h.symm
    have hh2 : ¬ i + n' = N := fun h => h2 h.symm
    go_enter Tryd.func27, Tryd.ntmps27
    go_wp2_with (first
      | (at_make; refine wpl_makeV Tryd.underlying26 info_tree (by decide) rfl (by decide) _ rfl _ _ rfl _ _ _ _ N rfl rfl (by omega) (by omega) (by omega) ?_; intro w1 zs hzl hzb hb1)
      | (with_reducible refine wpl_spliceN rfl (.tmp 22) (.tmp 25) _ _ rfl 28 8 Tryd.underlying26 hszS _ _ _ _ _ _ rfl rfl _ 0 _ _ hzb X1 (by decide) HA.out (fun _ => rfl) (HR1.out _ hb1) (by rw [HA2.out, hzl]; omega) HO1.out _ w hb1 (Nat.le_refl _) ?_; intro w2 hz2 hb2)
      | (with_reducible refine wpl_spliceN rfl (.tmp 29) (.tmp 30) _ _ rfl 28 8 Tryd.underlying26 hszS _ _ _ _ _ _ rfl rfl _ (i * 8) _ _ hz2.out Y (by decide) HB.out (fun _ => rfl) (HRY.out _ hb2) (by rw [length_splice _ _ _ (by rw [HA2.out, hzl]; omega), HB2.out, hzl]; omega) HOY.out _ w hb2 (Nat.le_refl _) ?_; intro w3 hz3 hb3))
    have HZ3 := Lib.hid hzl
    clear hzb hb1 hb2 hzl
    have HB3 := Lib.hid (show BlkV w3.drew w.heap.size 28 (splice (splice zs 0 X1) (i * 8) Y) from hz3.out)
    have HD3 := Lib.hid (show Below w.heap.size w w3.drew from hb3.drew)
    have HFIT := Lib.hid (show (i + n') * 8 + X2.length ≤ (splice (splice zs 0 X1) (i * 8) Y).length by rw [length_splice _ _ _ (by rw [length_splice _ _ _ (by rw [HA2.out, HZ3.out]; omega), HB2.out, HZ3.out]; omega), length_splice _ _ _ (by rw [HA2.out, HZ3.out]; omega), HC2.out, HZ3.out]; omega)
    go_region_law (refine step_spliceN rfl (.tmp 34) (.tmp 37) _ _ rfl 28 8 Tryd.underlying26 hszS (some ⟨w.heap.size, (i + n') * 8, none⟩) adx (N - (i + n')) (N - (i + n')) (n - j) (cap - j) (by simp [Act.eval, Act.put]) (by simp [Act.eval, Act.put]) w.heap.size ((i + n') * 8) (splice (splice zs 0 X1) (i * 8) Y) 28 HB3.out X2 (by decide) HC.out (fun _ => rfl) (HR2.out _ HD3.out) HFIT.out HO2.out w.heap.size w HD3.out (Nat.le_refl _) ?_; intro w4 hz4 hb4)
    have HF := Lib.hid (show OwnPost 28 8 N (flat (l.take i ++ m ++ l.drop j)) w (.returned (.slice (some ⟨w.heap.size, 0, none⟩) N N)) w4 from by
      refine ⟨_, rfl, ?_, hb4⟩
      have := hz4.out
      rw [show (i + n') * 8 = i * 8 + n' * 8 by omega] at this
      rw [splice_all HA2.out HB2.out (by rw [HZ3.out, HC2.out]; omega), HE.out] at this
      refine blk_own this (Nat.le_refl _) ?_ (by omega)
      rw [← HE.out, List.length_append, List.length_append, HA2.out, HB2.out, HC2.out]; omega)
    clear hz4 hb4
    go_wp2
    go_ret
    exact HF.out
end Go.Proofs.YtipibipaocpojaaDoor
