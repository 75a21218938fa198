/- Trees in memory: eight cells each. -/
import Derived.Test.YtbaekknbnognmaaV2
namespace Go.Proofs.Ytbaekknbnognmaa
open Go.RowKit
set_option linter.unusedVariables false
set_option linter.unusedSimpArgs false

/-- A tree's own cells. -/
structure Cel where
  k : Int
  b : Bool
  neg : Bool
  ma : Option Addr
  mn : Nat
  mc : Nat
  e : Int
  s : ByteArray
  ka : Option Addr
  kn : Nat
  kc : Nat
  va : Option Addr
  vn : Nat
  vc : Nat
def Cel.cells (c : Cel) : List Value := [.int .i64 c.k, .bool c.b, .bool c.neg, (.slice c.ma c.mn c.mc), .int .i64 c.e, .string c.s, (.slice c.ka c.kn c.kc), (.slice c.va c.vn c.vc)]
def Cel.val (c : Cel) : Value := .agg #[.int .i64 c.k, .bool c.b, .bool c.neg, (.slice c.ma c.mn c.mc), .int .i64 c.e, .string c.s, (.slice c.ka c.kn c.kc), (.slice c.va c.vn c.vc)]
/-- The cells of trees, one behind the other. -/
def flat (l : List Cel) : List Value := l.flatMap Cel.cells
theorem flat_len (l : List Cel) : (flat l).length = l.length * 8 := by
  induction l with
  | nil => rfl
  | cons c l ih => simp only [flat, List.flatMap_cons, List.length_append] at ih ⊢; rw [ih]; simp [Cel.cells]; omega
theorem flat_get (l : List Cel) (i j : Nat) (hi : i < l.length) (hj : j < 8) : (flat l)[i * 8 + j]? = l[i].cells[j]? := by
  induction l generalizing i with
  | nil => simp at hi
  | cons c l ih =>
    simp only [flat, List.flatMap_cons]
    cases i with
    | zero => rw [Nat.zero_mul, Nat.zero_add, List.getElem?_append_left (by simp [Cel.cells]; omega)]; rfl
    | succ i =>
      rw [List.getElem?_append_right (by simp [Cel.cells]; omega)]
      have : (i + 1) * 8 + j - c.cells.length = i * 8 + j := by simp [Cel.cells]; omega
      rw [this]
      simp only [List.length_cons] at hi
      exact ih i (by omega)
def zeroC : Cel := ⟨0, false, false, none, 0, 0, 0, ByteArray.empty, none, 0, 0, none, 0, 0⟩
theorem info_tree : (Try.prog.info? 31).map (fun i => (i.zero, i.size, i.bytes)) = some (some zeroC.val, 8, 120) := by kernel_rfl
theorem flat_rep (c : Cel) (n : Nat) : flat (List.replicate n c) = (List.range (n * 8)).map fun i => c.cells.getD (i % 8) default := by
  apply List.ext_getElem?
  intro q
  by_cases h : q < n * 8
  · have h1 := flat_get (List.replicate n c) (q / 8) (q % 8) (by simp; omega) (Nat.mod_lt _ (by decide))
    rw [show q / 8 * 8 + q % 8 = q by omega] at h1
    rw [h1]
    have h8 : q % 8 < c.cells.length := Nat.mod_lt _ (by decide)
    simp [h, List.getD, h8]
  · rw [List.getElem?_eq_none (by rw [flat_len]; simp; omega), List.getElem?_eq_none (by simp; omega)]
theorem made_trees (n : Nat) : (madeCells zeroC.val.cells (n * 8)).toList = flat (List.replicate n zeroC) := by
  rw [flat_rep]
  simp only [madeCells]
  apply List.ext_getElem
  · simp
  · intro i h1 h2
    simp [zeroC, Cel.val, Cel.cells, Value.cells]
/-- A new list of zero trees. -/
theorem wpl_make_trees (w : World) {ops : Array Oper} {rest : List Oper} {o : Oper} {a : Act} {Q : Exit → Act → World → Prop}
    (hg : o.guard = none) (l c : Operand) (hop : o.op = Op.makeSlice 23 l c) (kl kc : IntKind) (L C : Int) (n : Nat)
    (hl : a.eval l = .int kl L) (hc : a.eval c = .int kc C) (hL : L = (n : Int)) (hC : C = (n : Int)) (hn : n ≤ 1000000000000)
    (hK : ∀ w', BlkV w' w.heap.size 31 (flat (List.replicate n zeroC)) → Below w.heap.size w w' → wpList Try.prog ops Q rest (a.put o.dst (.slice (some ⟨w.heap.size, 0, none⟩) n n)) w') :
    wpList Try.prog ops Q (o :: rest) a w := by
  obtain ⟨i0, hi, hz0, hz1, hz2⟩ := info_parts info_tree
  refine wpList_make_full w hg l c 23 hop w.heap.size 31 i0 zeroC.val 8 Try.underlying23 hi hz0 hz1 kl kc L C n hl hc hL hC (by rw [hz2]; omega) (by unfold maxLen; omega) (Nat.le_refl _) ?_
  intro w' ho hgr
  refine hK w' ?_ ((Below.refl _ _).grown hgr (Nat.le_refl _) (fun k h => by cases h))
  obtain ⟨hl', h | ⟨g, cap, cur, e, _, hh, _, _, hs, ht⟩⟩ := ho
  · exact absurd h.1 (by simp)
  · simp only [Value.slice.injEq, Option.some.injEq, Addr.mk.injEq] at e
    obtain ⟨⟨rfl, _⟩, _, rfl⟩ := e
    unfold BlkV
    rw [hh, ← made_trees]
    have : cur.toList = (madeCells (Value.cells zeroC.val) (n * 8)).toList := by
      have h2 := ht
      rw [List.take_of_length_le (by simp [hs])] at h2
      simpa using h2
    rw [← this]
/-- The eight cells of a tree in a list that can be read. -/
theorem flat_at {w : World} {b o : Nat} {l : List Cel} (h : RdV w (some ⟨b, o, none⟩) (flat l)) (p : Nat) (hp : p < l.length) {c : Cel} (hc : l.getD p zeroC = c) :
    w.cell? ⟨b, o + p * 8, none⟩ = some (.int .i64 c.k) ∧ w.cell? ⟨b, o + p * 8 + 1, none⟩ = some (.bool c.b) ∧ w.cell? ⟨b, o + p * 8 + 2, none⟩ = some (.bool c.neg) ∧ w.cell? ⟨b, o + p * 8 + 3, none⟩ = some (.slice c.ma c.mn c.mc) ∧
    w.cell? ⟨b, o + p * 8 + 4, none⟩ = some (.int .i64 c.e) ∧ w.cell? ⟨b, o + p * 8 + 5, none⟩ = some (.string c.s) ∧ w.cell? ⟨b, o + p * 8 + 6, none⟩ = some (.slice c.ka c.kn c.kc) ∧ w.cell? ⟨b, o + p * 8 + 7, none⟩ = some (.slice c.va c.vn c.vc) := by
  have hg : l[p] = c := by rw [← hc]; simp [List.getD, hp]
  have key : ∀ j, j < 8 → w.cell? ⟨b, o + (p * 8 + j), none⟩ = c.cells[j]? := fun j hj => by
    rw [h.at (p * 8 + j) (by rw [flat_len]; omega), flat_get l p j hp hj, hg]
  have k0 := key 0 (by decide); have k1 := key 1 (by decide); have k2 := key 2 (by decide); have k3 := key 3 (by decide)
  have k4 := key 4 (by decide); have k5 := key 5 (by decide); have k6 := key 6 (by decide); have k7 := key 7 (by decide)
  simp only [← Nat.add_assoc, Nat.add_zero] at k0 k1 k2 k3 k4 k5 k6 k7
  exact ⟨k0, k1, k2, k3, k4, k5, k6, k7⟩
theorem flat_set (l : List Cel) (p : Nat) (hp : p < l.length) (c : Cel) :
    ((((((((flat l).set (p * 8) (.int .i64 c.k)).set (p * 8 + 1) (.bool c.b)).set (p * 8 + 2) (.bool c.neg)).set (p * 8 + 3) (.slice c.ma c.mn c.mc)).set (p * 8 + 4) (.int .i64 c.e)).set (p * 8 + 5) (.string c.s)).set (p * 8 + 6) (.slice c.ka c.kn c.kc)).set (p * 8 + 7) (.slice c.va c.vn c.vc) = flat (l.set p c) := by
  apply List.ext_getElem?
  intro q
  simp only [List.getElem?_set, List.length_set, flat_len]
  by_cases hq : q < l.length * 8
  · have h1 := flat_get (l.set p c) (q / 8) (q % 8) (by simp; omega) (Nat.mod_lt _ (by decide))
    rw [show q / 8 * 8 + q % 8 = q by omega] at h1
    rw [h1, List.getElem_set]
    have h2 := flat_get l (q / 8) (q % 8) (by omega) (Nat.mod_lt _ (by decide))
    rw [show q / 8 * 8 + q % 8 = q by omega] at h2
    by_cases e : p = q / 8
    · rw [if_pos e]
      have h8 : q % 8 = 0 ∨ q % 8 = 1 ∨ q % 8 = 2 ∨ q % 8 = 3 ∨ q % 8 = 4 ∨ q % 8 = 5 ∨ q % 8 = 6 ∨ q % 8 = 7 := by omega
      rcases h8 with h | h | h | h | h | h | h | h
      all_goals
        have hq' : q = p * 8 + q % 8 := by omega
        rw [h] at hq' ⊢
        clear h h1 h2
        subst hq'
        simp [Cel.cells]
        try omega
    · rw [if_neg e, ← h2]
      repeat (rw [if_neg (by omega)])
  · repeat (rw [if_neg (by omega)])
    rw [List.getElem?_eq_none (by rw [flat_len]; omega), List.getElem?_eq_none (by rw [flat_len]; simp; omega)]
/-- The world behind the store of a tree. -/
def put8 (w : World) (b q : Nat) (c : Cel) : World :=
  (((((((w.setCell ⟨b, q, none⟩ (.int .i64 c.k)).setCell ⟨b, q + 1, none⟩ (.bool c.b)).setCell ⟨b, q + 2, none⟩ (.bool c.neg)).setCell ⟨b, q + 3, none⟩ (.slice c.ma c.mn c.mc)).setCell ⟨b, q + 4, none⟩ (.int .i64 c.e)).setCell ⟨b, q + 5, none⟩ (.string c.s)).setCell ⟨b, q + 6, none⟩ (.slice c.ka c.kn c.kc)).setCell ⟨b, q + 7, none⟩ (.slice c.va c.vn c.vc)
theorem put8_blk {w : World} {b : Nat} {l : List Cel} (h : BlkV w b 31 (flat l)) (p : Nat) (hp : p < l.length) (c : Cel) : BlkV (put8 w b (p * 8) c) b 31 (flat (l.set p c)) := by
  rw [← flat_set l p hp c]
  exact (((((((h.set _ _).set _ _).set _ _).set _ _).set _ _).set _ _).set _ _).set _ _
theorem put8_but (w : World) (b q : Nat) (c : Cel) : But b w (put8 w b q c) :=
  ((((((((But.refl b w).setCell _ _).setCell _ _).setCell _ _).setCell _ _).setCell _ _).setCell _ _).setCell _ _).setCell _ _
theorem blk_olds {W : World} {g k : Nat} {l : List Cel} (h : BlkV W g 31 (flat l)) (hk : k < l.length) :
    (∃ z, W.cell? ⟨g, k * 8, none⟩ = some z) ∧ (∃ z, W.cell? ⟨g, k * 8 + 1, none⟩ = some z) ∧ (∃ z, W.cell? ⟨g, k * 8 + 2, none⟩ = some z) ∧ (∃ z, W.cell? ⟨g, k * 8 + 3, none⟩ = some z) ∧
    (∃ z, W.cell? ⟨g, k * 8 + 4, none⟩ = some z) ∧ (∃ z, W.cell? ⟨g, k * 8 + 5, none⟩ = some z) ∧ (∃ z, W.cell? ⟨g, k * 8 + 6, none⟩ = some z) ∧ (∃ z, W.cell? ⟨g, k * 8 + 7, none⟩ = some z) := by
  have key : ∀ j, j < 8 → ∃ z, W.cell? ⟨g, k * 8 + j, none⟩ = some z := fun j hj => by
    rw [h.cell]
    have : k * 8 + j < (flat l).length := by rw [flat_len]; omega
    exact ⟨_, List.getElem?_eq_getElem this⟩
  exact ⟨key 0 (by decide), key 1 (by decide), key 2 (by decide), key 3 (by decide), key 4 (by decide), key 5 (by decide), key 6 (by decide), key 7 (by decide)⟩
/-- What is picked. -/
def pickC (l : List Cel) (S : List Nat) : List Cel := S.map fun p => l.getD p zeroC
def pickK (l : List Cel) (S : List Nat) (k : Nat) : List Cel := pickC l (S.take k) ++ List.replicate (S.length - k) zeroC
theorem pickK_len (l : List Cel) (S : List Nat) {k : Nat} (h : k ≤ S.length) : (pickK l S k).length = S.length := by simp [pickK, pickC]; omega
theorem pickK_zero (l : List Cel) (S : List Nat) : pickK l S 0 = List.replicate S.length zeroC := by simp [pickK, pickC]
theorem pickK_all (l : List Cel) (S : List Nat) : pickK l S S.length = pickC l S := by simp [pickK]
theorem pickK_set (l : List Cel) (S : List Nat) {k : Nat} (h : k < S.length) : (pickK l S k).set k (l.getD (S.getD k 0) zeroC) = pickK l S (k + 1) := by
  unfold pickK pickC
  rw [List.set_append_right _ _ (by simp; omega), List.length_map, List.length_take, Nat.min_eq_left (by omega), Nat.sub_self, List.take_succ_eq_append_getElem h, List.map_append, List.append_assoc]
  congr 1
  obtain ⟨m, hm⟩ : ∃ m, S.length - k = m + 1 := ⟨S.length - k - 1, by omega⟩
  rw [hm, List.replicate_succ, List.set_cons_zero, show S.length - (k + 1) = m by omega]
  simp [List.getD, h]
/-- What a pick leaves. -/
def PickPost (e : TypeId) (vs : List Value) (n : Nat) (w : World) (r : Ending) (w' : World) : Prop :=
  ∃ g, r = .returned (.slice (some ⟨g, 0, none⟩) n n) ∧ w.heap.size ≤ g ∧ BlkV w' g e vs ∧ Below w.heap.size w w'
set_option maxHeartbeats 1000000 in
theorem pickT_any (ad : Option Addr) (n cap : Nat) (l : List Cel) (ad' : Option Addr) (n' cap' : Nat) (S : List Nat) (w : World) (hl : l.length = n) (hcap : n ≤ cap) (hm : n ≤ 1000000) (hr : RdV w ad (flat l))
    (hS : S.length = n') (hcap' : n' ≤ cap') (hm' : n' ≤ 1000000) (hr' : RdV w ad' (S.map iv)) (hb : ∀ p ∈ S, p < n) :
    Calls Try.prog 29 #[.slice ad n cap, .slice ad' n' cap'] w (PickPost 31 (flat (pickC l S)) n' w) := by
  have HL := Lib.hid hl; have HR := Lib.hid hr; have HS := Lib.hid hS; have HR' := Lib.hid hr'; have HB := Lib.hid hb
  clear hl hr hS hr' hb
  go_enter Try.func29, Try.ntmps29
  go_wp2_with (at_make; refine wpl_make_trees _ rfl _ _ rfl _ _ _ _ n' rfl rfl rfl rfl (by omega) ?_)
  intro w1 hk1 hb1
  have HK := Lib.hid hk1; have HBL := Lib.hid hb1
  clear hk1 hb1
  go_wp2
  go_loopw [13] (fun i wr => ∃ k : Nat, k ≤ n' ∧ i = .int .i64 (k : Int) ∧ BlkV wr w.heap.size 31 (flat (pickK l S k)) ∧ Below w.heap.size w wr) (fun i _ => n' - (intOf i).toNat)
  case atStart => exact ⟨0, Nat.zero_le _, rfl, by rw [pickK_zero, HS.out]; exact HK.out, HBL.out⟩
  case round =>
    obtain ⟨k, hk, rfl, hT, hbl⟩ := hrel
    have HT := Lib.hid hT; have HBW := Lib.hid hbl
    clear hT hbl
    by_cases hlt : k < n'
    · have h1 : (k : Int) < (n' : Int) := by omega
      have h2 : (0 : Int) ≤ (k : Int) := by omega
      obtain ⟨b', o', rfl, _, hc⟩ := (HR'.out.on HBW.out) k (by rw [List.length_map, HS.out]; exact hlt)
      rw [iv_get _ _ (by rw [HS.out]; exact hlt)] at hc
      have hp := HB.out (S.getD k 0) (by simp [List.getD, HS.out, hlt])
      obtain ⟨b, o, rfl, _⟩ := (HR.out.on HBW.out).shape (by rw [flat_len, HL.out]; omega)
      obtain ⟨c0, c1, c2, c3, c4, c5, c6, c7⟩ := flat_at (HR.out.on HBW.out) (S.getD k 0) (by rw [HL.out]; exact hp) rfl
      obtain ⟨⟨z0, d0⟩, ⟨z1, d1⟩, ⟨z2, d2⟩, ⟨z3, d3⟩, ⟨z4, d4⟩, ⟨z5, d5⟩, ⟨z6, d6⟩, ⟨z7, d7⟩⟩ := blk_olds HT.out (show k < (pickK l S k).length by rw [pickK_len _ _ (by rw [HS.out]; exact hk), HS.out]; exact hlt)
      have f0 := HT.out.free (k * 8); have f1 := HT.out.free (k * 8 + 1); have f2 := HT.out.free (k * 8 + 2); have f3 := HT.out.free (k * 8 + 3)
      have f4 := HT.out.free (k * 8 + 4); have f5 := HT.out.free (k * 8 + 5); have f6 := HT.out.free (k * 8 + 6); have f7 := HT.out.free (k * 8 + 7)
      have hnew := put8_blk HT.out k (by rw [pickK_len _ _ (by rw [HS.out]; exact hk), HS.out]; exact hlt) (l.getD (S.getD k 0) zeroC)
      rw [pickK_set _ _ (by rw [HS.out]; exact hlt)] at hnew
      have HNEW := Lib.hid hnew; clear hnew
      have HB3 := Lib.hid (HBW.out.trans ((put8_but wr w.heap.size (k * 8) (l.getD (S.getD k 0) zeroC)).below (Nat.le_refl _) HBW.out.size))
      unfold put8 at HNEW HB3
      generalize l.getD (S.getD k 0) zeroC = c at *
      generalize S.getD k 0 = p at *
      have hp1 : (p : Int) < (n : Int) := by omega
      have hp2 : (0 : Int) ≤ (p : Int) := by omega
      go_wp2_with fail
      go_roundw
      case rel => exact ⟨k + 1, by omega, by go_num, HNEW.out, HB3.out⟩
      case measure => simp [intOf]; omega
    · obtain rfl : k = n' := by omega
      have h1 : ¬ (k : Int) < (k : Int) := by omega
      have hT := HT.out
      rw [← HS.out, pickK_all] at hT
      have HT2 := Lib.hid hT; clear hT
      go_wp2
      go_ret
      exact ⟨_, rfl, Nat.le_refl _, HT2.out, HBW.out⟩
end Go.Proofs.Ytbaekknbnognmaa
