/- Lists of one-cell values, and trees in memory: eight cells each. -/
import Derived.Test.YtipibipaocpojaaDoorC3
import Derived.Test.YtipibipaocpojaaDoorU4
import Derived.Below
import Derived.WalkKit
import Derived.WalkSpells
import Derived.WalkLawsBesides
import Derived.Deep.QuietTactic
import Derived.BigQuiet
import Derived.Lib.Hide
import Derived.OwnWalk
import Derived.Laws.AppendOwn
import Derived.Laws.MakeOwn
import Derived.Laws.CopyOwn
import Derived.Deep.OwnRows
import Derived.Laws.AppendOwnNone
namespace Go.Proofs.YtipibipaocpojaaDoor
open Go.RowKit
set_option linter.unusedVariables false
set_option linter.unusedSimpArgs false


theorem below_drewN {B : Nat} {a w : World} (h : Below B a w) (n : Nat) : Below B a (w.drewN n) := h.trans ⟨rfl, rfl, rfl, Nat.le_refl _, fun _ _ => rfl⟩
/-- The cells that a slice's address leads to read as these values. -/
def RdV (w : World) (ad : Option Addr) (vs : List Value) : Prop :=
  ∀ i, i < vs.length → ∃ b o, ad = some ⟨b, o, none⟩ ∧ b < w.heap.size ∧ w.cell? ⟨b, o + i, none⟩ = vs[i]?
theorem RdV.nil (w : World) (ad : Option Addr) : RdV w ad [] := by intro i h; simp at h
theorem RdV.at {w : World} {b o : Nat} {vs : List Value} (h : RdV w (some ⟨b, o, none⟩) vs) (i : Nat) (hi : i < vs.length) : w.cell? ⟨b, o + i, none⟩ = vs[i]? := by
  obtain ⟨b', o', e, _, hc⟩ := h i hi
  cases e; exact hc
theorem RdV.shape {w : World} {ad : Option Addr} {vs : List Value} (h : RdV w ad vs) (hp : 0 < vs.length) : ∃ b o, ad = some ⟨b, o, none⟩ ∧ b < w.heap.size := by
  obtain ⟨b, o, e, hb, _⟩ := h 0 hp
  exact ⟨b, o, e, hb⟩
theorem RdV.take {w : World} {ad : Option Addr} {vs : List Value} (h : RdV w ad vs) (n : Nat) : RdV w ad (vs.take n) := by
  intro i hi
  rw [List.length_take] at hi
  obtain ⟨b, o, e, hb, hc⟩ := h i (by omega)
  exact ⟨b, o, e, hb, by rw [hc, List.getElem?_take]; simp [show i < n by omega]⟩
theorem RdV.drop {w : World} {b o : Nat} {vs : List Value} (h : RdV w (some ⟨b, o, none⟩) vs) (k : Nat) : RdV w (some ⟨b, o + k, none⟩) (vs.drop k) := by
  intro i hi
  rw [List.length_drop] at hi
  obtain ⟨b', o', e, hb, hc⟩ := h (k + i) (by omega)
  cases e
  exact ⟨b, o + k, rfl, hb, by rw [Nat.add_assoc, hc, List.getElem?_drop]⟩
theorem RdV.below {w w' : World} {ad : Option Addr} {vs : List Value} (h : RdV w ad vs) {B : Nat} (hb : Below B w w') (hB : ∀ a, ad = some a → 0 < vs.length → a.block < B) : RdV w' ad vs := by
  intro i hi
  obtain ⟨b, o, e, hlt, hc⟩ := h i hi
  have hbb : b < B := hB _ e (by omega)
  exact ⟨b, o, e, Nat.lt_of_lt_of_le hlt hb.size, by rw [hb.cell (p := ⟨b, o + i, none⟩) hbb]; exact hc⟩
theorem RdV.on {w w' : World} {ad : Option Addr} {vs : List Value} (h : RdV w ad vs) (hb : Below w.heap.size w w') : RdV w' ad vs :=
  h.below hb fun a e hp => by obtain ⟨b, o, e', hlt, _⟩ := h 0 hp; rw [e] at e'; cases e'; exact hlt
theorem RdV.lt {w : World} {ad : Option Addr} {vs : List Value} (h : RdV w ad vs) (a : Addr) (e : ad = some a) (hp : 0 < vs.length) : a.block < w.heap.size := by
  obtain ⟨b, o, e', hb⟩ := h.shape hp
  rw [e] at e'; cases e'; exact hb

/-- Block g holds these values, cells of type e, none of it frozen. -/
def BlkV (w : World) (g : Nat) (e : TypeId) (vs : List Value) : Prop := w.heap[g]? = some (.cells vs.toArray e (0, 0))
theorem BlkV.lt {w : World} {g : Nat} {e : TypeId} {vs : List Value} (h : BlkV w g e vs) : g < w.heap.size := by
  rcases Nat.lt_or_ge g w.heap.size with h1 | h1
  · exact h1
  · rw [BlkV, Array.getElem?_eq_none h1] at h; cases h
theorem BlkV.cell {w : World} {g : Nat} {e : TypeId} {vs : List Value} (h : BlkV w g e vs) (i : Nat) : w.cell? ⟨g, i, none⟩ = vs[i]? := by
  unfold BlkV at h
  simp [World.cell?, h]
theorem BlkV.free {w : World} {g : Nat} {e : TypeId} {vs : List Value} (h : BlkV w g e vs) (i : Nat) : w.frozen? ⟨g, i, none⟩ = false := by
  unfold BlkV at h
  simp [World.frozen?, h]
theorem BlkV.rd {w : World} {g : Nat} {e : TypeId} {vs : List Value} (h : BlkV w g e vs) (o n : Nat) : RdV w (some ⟨g, o, none⟩) ((vs.drop o).take n) := by
  intro i hi
  rw [List.length_take, List.length_drop] at hi
  refine ⟨g, o, rfl, h.lt, ?_⟩
  rw [h.cell (o + i), List.getElem?_take, List.getElem?_drop]
  simp [show i < n by omega]
theorem BlkV.all {w : World} {g : Nat} {e : TypeId} {vs : List Value} (h : BlkV w g e vs) : RdV w (some ⟨g, 0, none⟩) vs := by
  have := h.rd 0 vs.length
  simpa using this
theorem BlkV.set {w : World} {g : Nat} {e : TypeId} {vs : List Value} (h : BlkV w g e vs) (i : Nat) (v : Value) : BlkV (w.setCell ⟨g, i, none⟩ v) g e (vs.set i v) := by
  have hlt := h.lt
  unfold BlkV at h ⊢
  simp only [World.setCell, Array.getElem?_modify, h]
  simp
theorem BlkV.drewN {w : World} {g : Nat} {e : TypeId} {vs : List Value} (h : BlkV w g e vs) (q : Nat) : BlkV (w.drewN q) g e vs := h
theorem BlkV.below {w w' : World} {g : Nat} {e : TypeId} {vs : List Value} (h : BlkV w g e vs) {B : Nat} (hb : Below B w w') (hg : g < B) : BlkV w' g e vs := by
  unfold BlkV; rw [hb.block g hg]; exact h

/-- All blocks but g are as they were; there may be new ones. -/
structure But (g : Nat) (w w' : World) : Prop where
  os : w'.os = w.os
  tape : w'.tape = w.tape
  output : w'.output = w.output
  size : w.heap.size ≤ w'.heap.size
  block : ∀ k, k < w.heap.size → k ≠ g → w'.heap[k]? = w.heap[k]?
theorem But.refl (g : Nat) (w : World) : But g w w := ⟨rfl, rfl, rfl, Nat.le_refl _, fun _ _ _ => rfl⟩
theorem But.trans {g : Nat} {a b c : World} (h : But g a b) (k : But g b c) : But g a c :=
  ⟨k.os.trans h.os, k.tape.trans h.tape, k.output.trans h.output, Nat.le_trans h.size k.size, fun i hi hn => (k.block i (Nat.lt_of_lt_of_le hi h.size) hn).trans (h.block i hi hn)⟩
theorem But.of_below {g : Nat} {w w' : World} (h : Below w.heap.size w w') : But g w w' := ⟨h.os, h.tape, h.output, h.size, fun k hk _ => h.block k hk⟩
theorem But.drewN {g : Nat} {a w : World} (h : But g a w) (n : Nat) : But g a (w.drewN n) := h.trans ⟨rfl, rfl, rfl, Nat.le_refl _, fun _ _ _ => rfl⟩
theorem But.setCell {g : Nat} {a w : World} (h : But g a w) (i : Nat) (v : Value) : But g a (w.setCell ⟨g, i, none⟩ v) :=
  h.trans ⟨rfl, rfl, rfl, by simp [World.setCell], fun k _ hn => Below.heap_setCell _ _ _ _ hn⟩
theorem But.below {g : Nat} {w w' : World} (h : But g w w') {B : Nat} (hg : B ≤ g) (hB : B ≤ w.heap.size) : Below B w w' :=
  ⟨h.os, h.tape, h.output, h.size, fun k hk => h.block k (by omega) (by omega)⟩
theorem But.blk {g k : Nat} {w w' : World} (h : But g w w') {e : TypeId} {vs : List Value} (hb : BlkV w k e vs) (hk : k ≠ g) : BlkV w' k e vs := by
  unfold BlkV; rw [h.block k hb.lt hk]; exact hb
theorem But.rd {g : Nat} {w w' : World} (h : But g w w') {ad : Option Addr} {vs : List Value} (hr : RdV w ad vs) (hn : ∀ a, ad = some a → 0 < vs.length → a.block ≠ g) : RdV w' ad vs := by
  intro i hi
  obtain ⟨b, o, e, hlt, hc⟩ := hr i hi
  exact ⟨b, o, e, Nat.lt_of_lt_of_le hlt h.size, by rw [World.cell?_of_block (w := w) (h.block b hlt (hn _ e (by omega)))]; exact hc⟩

/-- Whole numbers from 0 on as values. -/
def iv (n : Nat) : Value := .int .i64 (n : Int)
theorem iv_get (l : List Nat) (i : Nat) (hi : i < l.length) : (l.map iv)[i]? = some (.int .i64 ((l.getD i 0 : Nat) : Int)) := by
  simp [List.getD, hi, iv]
/-- Texts as values. -/
def sv (l : List ByteArray) : List Value := l.map Value.string
theorem sv_get (l : List ByteArray) (i : Nat) (hi : i < l.length) : (sv l)[i]? = some (.string (l.getD i ByteArray.empty)) := by
  simp [List.getD, hi, sv]
theorem sv_len (l : List ByteArray) : (sv l).length = l.length := by simp [sv]

theorem info_int : (Tryd.prog.info? 3).map (fun i => (i.zero, i.size, i.bytes)) = some (some (.int .i64 0), 1, 8) := by kernel_rfl
theorem made_ints (n : Nat) : (madeCells (Value.cells (.int .i64 0)) (n * 1)).toList = (List.replicate n 0).map iv := by
  simp only [madeCells]
  apply List.ext_getElem
  · simp
  · intro i h1 h2; simp [Value.cells, iv, Nat.mod_one]
/-- What make lays. -/
theorem made_blk (w : World) (z : Value) (n : Nat) (e : TypeId) : BlkV (w.alloc (.cells (madeCells #[z] n) e)) w.heap.size e (List.replicate n z) := by
  unfold BlkV
  rw [heap_alloc_new]
  congr 2
  apply Array.ext
  · simp [madeCells]
  · intro i h1 h2; simp [madeCells, Nat.mod_one]
theorem rep_iv (n : Nat) : List.replicate n (Value.int .i64 0) = (List.replicate n 0).map iv := by simp [iv]
/-- A new list of noughts. -/
theorem wpl_make_ints (w : World) {ops : Array Oper} {rest : List Oper} {o : Oper} {a : Act} {Q : Exit → Act → World → Prop}
    (hg : o.guard = none) (l c : Operand) (hop : o.op = Op.makeSlice 42 l c) (kl kc : IntKind) (L C : Int) (n : Nat)
    (hl : a.eval l = .int kl L) (hc : a.eval c = .int kc C) (hL : L = (n : Int)) (hC : C = (n : Int)) (hn : n ≤ 1000000000000)
    (hK : ∀ w', BlkV w' w.heap.size 3 ((List.replicate n 0).map iv) → Below w.heap.size w w' → wpList Tryd.prog ops Q rest (a.put o.dst (.slice (some ⟨w.heap.size, 0, none⟩) n n)) w') :
    wpList Tryd.prog ops Q (o :: rest) a w := by
  obtain ⟨i0, hi, hz0, hz1, hz2⟩ := info_parts info_int
  refine wpList_make_full w hg l c 42 hop w.heap.size 3 i0 (.int .i64 0) 1 Tryd.underlying42 hi hz0 hz1 kl kc L C n hl hc hL hC (by rw [hz2]; omega) (by unfold maxLen; omega) (Nat.le_refl _) ?_
  intro w' ho hgr
  refine hK w' ?_ ((Below.refl _ _).grown hgr (Nat.le_refl _) (fun k h => by cases h))
  obtain ⟨hl', h | ⟨g, cap, cur, e, _, hh, _, _, hs, ht⟩⟩ := ho
  · exact absurd h.1 (by simp)
  · simp only [Value.slice.injEq, Option.some.injEq, Addr.mk.injEq] at e
    obtain ⟨⟨rfl, _⟩, _, rfl⟩ := e
    unfold BlkV
    rw [hh, ← made_ints]
    have : cur.toList = (madeCells (Value.cells (.int .i64 0)) (n * 1)).toList := by
      have h2 := ht
      rw [List.take_of_length_le (by simp [hs])] at h2
      simpa using h2
    rw [← this]



/-- What is owned can be read. -/
theorem own_view {w : World} {B : Nat} {e : TypeId} {v : Value} {n : Nat} {vs : List Value} (h : w.ownsRow B e 1 v n vs) :
    ∃ ad cap, v = .slice ad n cap ∧ n ≤ cap ∧ RdV w ad vs ∧ vs.length = n ∧ ∀ a, ad = some a → B ≤ a.block ∧ a.block < w.heap.size := by
  have hl : vs.length = n := by have := h.1; omega
  rcases h.2 with ⟨rfl, h0⟩ | ⟨g, cap, cur, rfl, hB, hg, hc, hm, hs, ht⟩
  · subst h0
    have : vs = [] := List.eq_nil_of_length_eq_zero hl
    subst this
    exact ⟨none, 0, rfl, Nat.le_refl _, RdV.nil _ _, rfl, fun a h => by cases h⟩
  · have hlt : g < w.heap.size := (Array.getElem?_eq_some_iff.1 hg).1
    refine ⟨_, cap, rfl, hc, ?_, hl, fun a h => by cases h; exact ⟨hB, hlt⟩⟩
    intro i hi
    refine ⟨g, 0, rfl, hlt, ?_⟩
    have hv : vs[i]? = some vs[i] := List.getElem?_eq_getElem hi
    have := World.ownsRow.cells h (g := g) rfl i vs[i] hv
    have hadd : (⟨g, 0, none⟩ : Addr).add i = ⟨g, 0 + i, none⟩ := by unfold Addr.add; split <;> simp_all
    rw [hadd] at this
    rw [this, hv]
theorem own_on {w w' : World} {B : Nat} {e : TypeId} {v : Value} {n : Nat} {xs : List Value} (h : w.ownsRow B e 1 v n xs) (hb : Below w.heap.size w w') : w'.ownsRow B e 1 v n xs := by
  refine ⟨h.1, ?_⟩
  rcases h.2 with h2 | ⟨g, cap, cur, rfl, hB, hg, rest⟩
  · exact .inl h2
  · refine .inr ⟨g, cap, cur, rfl, hB, ?_, rest⟩
    rw [hb.block g (Array.getElem?_eq_some_iff.1 hg).1]; exact hg
theorem run_append_noneK {P : Program} {w : World} (t ty e : TypeId) (i : TypeInfo) (ht : P.underlying t = some (.slice e)) (hi : P.info? e = some i) (c : Nat) :
    (Builtin.append_ #[t, t] ty #[.slice none 0 0, .slice none 0 c]).run P w = .ok (.slice none 0 0) w := by
  simp [Builtin.append_, run_underlying ht, sizeOf, typeInfo, hi, Builtin.lenOf, Builtin.firstCells]

section
variable {t e : TypeId} {z : Value} {bytes : Nat}
/-- One more at the end of a list that the call owns. -/
theorem wpl_app1 (ht : Tryd.prog.underlying t = some (.slice e)) (hi : (Tryd.prog.info? e).map (fun i => (i.zero, i.size, i.bytes)) = some (some z, 1, bytes)) (hz1 : z.cells = #[z]) (hby : bytes ≤ 1000) (w : World) {ops : Array Oper} {rest : List Oper} {o : Oper} {a : Act} {Q : Exit → Act → World → Prop}
    (hg : o.guard = none) (s x : Operand) (hop : o.op = .call { callee := .builtin .append, args := #[s, x], argTypes := #[t, t] })
    (B : Nat) (v : Value) (n : Nat) (xs : List Value) (hs : a.eval s = v) (hown : w.ownsRow B e 1 v n xs) (g : Nat) (y : Value) (hy : y.oneCell' = true) (hx : a.eval x = .slice (some ⟨g, 0, none⟩) 1 1) (hc : w.cell? ⟨g, 0, none⟩ = some y)
    (hn : n ≤ 1000000000) (hB : B ≤ w.heap.size)
    (h : ∀ v' w', w'.ownsRow B e 1 v' (n + 1) (xs ++ [y]) → w.grownBy w' v.ownBlock → wpList Tryd.prog ops Q rest (a.put o.dst v') w') :
    wpList Tryd.prog ops Q (o :: rest) a w := by
  obtain ⟨i0, hi, hz0, hzs, hz2⟩ := info_parts hi
  refine wpList_append_own w hg s x t hop B e i0 z 1 bytes ht hi hz0 hzs hz2 (by rw [hz1]; rfl) (by decide) v n xs hs hown ⟨g, 0, none⟩ 1 1 [y] hx rfl ?_ ?_ (by unfold maxLen; omega) (by
    have : (n + 1) * bytes ≤ (n + 1) * 1000 := Nat.mul_le_mul_left _ hby
    omega) hB (fun v' w' h1 h2 _ => h v' w' h1 h2)
  · intro j u hj
    match j, hj with
    | 0, hj => simp at hj; subst hj; simpa [Addr.add] using hc
  · intro u hu; simp at hu; subst hu; exact hy
/-- A copy of a list. -/
theorem wpl_clone1 (ht : Tryd.prog.underlying t = some (.slice e)) (hi : (Tryd.prog.info? e).map (fun i => (i.zero, i.size, i.bytes)) = some (some z, 1, bytes)) (hz1 : z.cells = #[z]) (hby : bytes ≤ 1000) (w : World) {ops : Array Oper} {rest : List Oper} {o : Oper} {a : Act} {Q : Exit → Act → World → Prop}
    (hg : o.guard = none) (s x : Operand) (hop : o.op = .call { callee := .builtin .append, args := #[s, x], argTypes := #[t, t] })
    (ad : Option Addr) (n cap : Nat) (vs : List Value) (h1c : ∀ v ∈ vs, v.oneCell' = true) (hs : a.eval s = .slice none 0 0) (hx : a.eval x = .slice ad n cap) (hl : vs.length = n) (hr : RdV w ad vs) (hn : n ≤ 1000000000)
    (h : ∀ v' w', w'.ownsRow w.heap.size e 1 v' n vs → Below w.heap.size w w' → wpList Tryd.prog ops Q rest (a.put o.dst v') w') :
    wpList Tryd.prog ops Q (o :: rest) a w := by
  obtain ⟨i0, hi, hz0, hzs, hz2⟩ := info_parts hi
  subst hl
  cases ad with
  | none =>
    have h0 : vs = [] := by
      rcases Nat.eq_zero_or_pos vs.length with h0 | h0
      · exact List.eq_nil_of_length_eq_zero h0
      · obtain ⟨_, _, e, _⟩ := hr 0 h0
        cases e
    subst h0
    refine wpList_plain hg fun K hK => ?_
    have hrun := run_append_noneK (P := Tryd.prog) (w := w) t o.type e i0 ht hi cap
    simp only [List.length_nil] at hx
    unfold Oper.wp
    simp [execOp, hop, resolve, invoke, builtin, hs, hx, hrun, Result.andThen]
    exact hK _ _ (h _ _ (World.ownsRow_nil _ _ _ _) (Below.refl _ _))
  | some ad =>
    refine wpList_append_own w hg s x t hop w.heap.size e i0 z 1 bytes ht hi hz0 hzs hz2 (by rw [hz1]; rfl) (by decide) _ 0 [] hs (World.ownsRow_nil _ _ _ _) ad vs.length cap vs hx (by simp) ?_ ?_ (by unfold maxLen; omega) (by
      have : (0 + vs.length) * bytes ≤ (0 + vs.length) * 1000 := Nat.mul_le_mul_left _ hby
      omega) (Nat.le_refl _) (fun v' w' h1 h2 _ => h v' w' (by simpa using h1) ((Below.refl _ _).grown h2 (Nat.le_refl _) (fun k hk => by cases hk)))
    · intro j u hj
      have hjl : j < vs.length := (List.getElem?_eq_some_iff.1 hj).1
      obtain ⟨b, o', e, _, hc⟩ := hr j hjl
      cases e
      have hadd : (⟨b, o', none⟩ : Addr).add j = ⟨b, o' + j, none⟩ := by unfold Addr.add; split <;> simp_all
      rw [hadd, hc, hj]
    · intro u hu
      exact h1c u hu
end
theorem info_string : (Tryd.prog.info? 9).map (fun i => (i.zero, i.size, i.bytes)) = some (some (.string ByteArray.empty), 1, 16) := by kernel_rfl
theorem sv_one (l : List ByteArray) : ∀ v ∈ sv l, v.oneCell' = true := by
  intro v hv; simp only [sv, List.mem_map] at hv; obtain ⟨s, _, rfl⟩ := hv; rfl
/-- What a copy of a list leaves. -/
def ClonePost (e : TypeId) (vs : List Value) (w : World) (r : Ending) (w' : World) : Prop :=
  ∃ v, r = .returned v ∧ w'.ownsRow w.heap.size e 1 v vs.length vs ∧ Below w.heap.size w w'
theorem strings_any (ad : Option Addr) (n cap : Nat) (l : List ByteArray) (w : World) (hl : l.length = n) (hn : n ≤ 1000000000) (hr : RdV w ad (sv l)) :
    Calls Tryd.prog 33 #[.slice ad n cap] w (ClonePost 9 (sv l) w) := by
  have HR := Lib.hid hr; have HL := Lib.hid hl
  clear hr hl
  go_enter Tryd.func33, Tryd.ntmps33
  go_wp2_with (at_builtin; refine wpl_clone1 Tryd.underlying25 info_string rfl (by decide) _ rfl _ _ rfl ad n cap (sv l) (sv_one l) rfl rfl (by rw [sv_len]; exact HL.out) HR.out (by omega) ?_)
  intro v' w' h1 h2
  have H := Lib.hid (show ClonePost 9 (sv l) w (.returned v') w' from ⟨v', rfl, by rw [sv_len, HL.out]; exact h1, h2⟩)
  clear h1 h2
  go_wp2
  go_ret
  exact H.out



/-- A tree's own cells. -/
structure Cel where
  k : Int
  b : Bool
  neg : Bool
  ma : Option Addr
  mn : Nat
  mc : Nat
  e : Int
  s : ByteArray
  ka : Option Addr
  kn : Nat
  kc : Nat
  va : Option Addr
  vn : Nat
  vc : Nat
def Cel.cells (c : Cel) : List Value := [.int .i64 c.k, .bool c.b, .bool c.neg, (.slice c.ma c.mn c.mc), .int .i64 c.e, .string c.s, (.slice c.ka c.kn c.kc), (.slice c.va c.vn c.vc)]
def Cel.val (c : Cel) : Value := .agg #[.int .i64 c.k, .bool c.b, .bool c.neg, (.slice c.ma c.mn c.mc), .int .i64 c.e, .string c.s, (.slice c.ka c.kn c.kc), (.slice c.va c.vn c.vc)]
/-- The cells of trees, one behind the other. -/
def flat (l : List Cel) : List Value := l.flatMap Cel.cells
theorem flat_len (l : List Cel) : (flat l).length = l.length * 8 := by
  induction l with
  | nil => rfl
  | cons c l ih => simp only [flat, List.flatMap_cons, List.length_append] at ih ⊢; rw [ih]; simp [Cel.cells]; omega
theorem flat_get (l : List Cel) (i j : Nat) (hi : i < l.length) (hj : j < 8) : (flat l)[i * 8 + j]? = l[i].cells[j]? := by
  induction l generalizing i with
  | nil => simp at hi
  | cons c l ih =>
    simp only [flat, List.flatMap_cons]
    cases i with
    | zero => rw [Nat.zero_mul, Nat.zero_add, List.getElem?_append_left (by simp [Cel.cells]; omega)]; rfl
    | succ i =>
      rw [List.getElem?_append_right (by simp [Cel.cells]; omega)]
      have : (i + 1) * 8 + j - c.cells.length = i * 8 + j := by simp [Cel.cells]; omega
      rw [this]
      simp only [List.length_cons] at hi
      exact ih i (by omega)
def zeroC : Cel := ⟨0, false, false, none, 0, 0, 0, ByteArray.empty, none, 0, 0, none, 0, 0⟩
theorem info_tree : (Tryd.prog.info? 28).map (fun i => (i.zero, i.size, i.bytes)) = some (some zeroC.val, 8, 120) := by kernel_rfl
theorem flat_rep (c : Cel) (n : Nat) : flat (List.replicate n c) = (List.range (n * 8)).map fun i => c.cells.getD (i % 8) default := by
  apply List.ext_getElem?
  intro q
  by_cases h : q < n * 8
  · have h1 := flat_get (List.replicate n c) (q / 8) (q % 8) (by simp; omega) (Nat.mod_lt _ (by decide))
    rw [show q / 8 * 8 + q % 8 = q by omega] at h1
    rw [h1]
    have h8 : q % 8 < c.cells.length := Nat.mod_lt _ (by decide)
    simp [h, List.getD, h8]
  · rw [List.getElem?_eq_none (by rw [flat_len]; simp; omega), List.getElem?_eq_none (by simp; omega)]
theorem made_trees (n : Nat) : (madeCells zeroC.val.cells (n * 8)).toList = flat (List.replicate n zeroC) := by
  rw [flat_rep]
  simp only [madeCells]
  apply List.ext_getElem
  · simp
  · intro i h1 h2
    simp [zeroC, Cel.val, Cel.cells, Value.cells]
/-- A new list of zero trees. -/
theorem wpl_make_trees (w : World) {ops : Array Oper} {rest : List Oper} {o : Oper} {a : Act} {Q : Exit → Act → World → Prop}
    (hg : o.guard = none) (l c : Operand) (hop : o.op = Op.makeSlice 26 l c) (kl kc : IntKind) (L C : Int) (n : Nat)
    (hl : a.eval l = .int kl L) (hc : a.eval c = .int kc C) (hL : L = (n : Int)) (hC : C = (n : Int)) (hn : n ≤ 1000000000000)
    (hK : ∀ w', BlkV w' w.heap.size 28 (flat (List.replicate n zeroC)) → Below w.heap.size w w' → wpList Tryd.prog ops Q rest (a.put o.dst (.slice (some ⟨w.heap.size, 0, none⟩) n n)) w') :
    wpList Tryd.prog ops Q (o :: rest) a w := by
  obtain ⟨i0, hi, hz0, hz1, hz2⟩ := info_parts info_tree
  refine wpList_make_full w hg l c 26 hop w.heap.size 28 i0 zeroC.val 8 Tryd.underlying26 hi hz0 hz1 kl kc L C n hl hc hL hC (by rw [hz2]; omega) (by unfold maxLen; omega) (Nat.le_refl _) ?_
  intro w' ho hgr
  refine hK w' ?_ ((Below.refl _ _).grown hgr (Nat.le_refl _) (fun k h => by cases h))
  obtain ⟨hl', h | ⟨g, cap, cur, e, _, hh, _, _, hs, ht⟩⟩ := ho
  · exact absurd h.1 (by simp)
  · simp only [Value.slice.injEq, Option.some.injEq, Addr.mk.injEq] at e
    obtain ⟨⟨rfl, _⟩, _, rfl⟩ := e
    unfold BlkV
    rw [hh, ← made_trees]
    have : cur.toList = (madeCells (Value.cells zeroC.val) (n * 8)).toList := by
      have h2 := ht
      rw [List.take_of_length_le (by simp [hs])] at h2
      simpa using h2
    rw [← this]
/-- The eight cells of a tree in a list that can be read. -/
theorem flat_at {w : World} {b o : Nat} {l : List Cel} (h : RdV w (some ⟨b, o, none⟩) (flat l)) (p : Nat) (hp : p < l.length) {c : Cel} (hc : l.getD p zeroC = c) :
    w.cell? ⟨b, o + p * 8, none⟩ = some (.int .i64 c.k) ∧ w.cell? ⟨b, o + p * 8 + 1, none⟩ = some (.bool c.b) ∧ w.cell? ⟨b, o + p * 8 + 2, none⟩ = some (.bool c.neg) ∧ w.cell? ⟨b, o + p * 8 + 3, none⟩ = some (.slice c.ma c.mn c.mc) ∧
    w.cell? ⟨b, o + p * 8 + 4, none⟩ = some (.int .i64 c.e) ∧ w.cell? ⟨b, o + p * 8 + 5, none⟩ = some (.string c.s) ∧ w.cell? ⟨b, o + p * 8 + 6, none⟩ = some (.slice c.ka c.kn c.kc) ∧ w.cell? ⟨b, o + p * 8 + 7, none⟩ = some (.slice c.va c.vn c.vc) := by
  have hg : l[p] = c := by rw [← hc]; simp [List.getD, hp]
  have key : ∀ j, j < 8 → w.cell? ⟨b, o + (p * 8 + j), none⟩ = c.cells[j]? := fun j hj => by
    rw [h.at (p * 8 + j) (by rw [flat_len]; omega), flat_get l p j hp hj, hg]
  have k0 := key 0 (by decide); have k1 := key 1 (by decide); have k2 := key 2 (by decide); have k3 := key 3 (by decide)
  have k4 := key 4 (by decide); have k5 := key 5 (by decide); have k6 := key 6 (by decide); have k7 := key 7 (by decide)
  simp only [← Nat.add_assoc, Nat.add_zero] at k0 k1 k2 k3 k4 k5 k6 k7
  exact ⟨k0, k1, k2, k3, k4, k5, k6, k7⟩
theorem flat_set (l : List Cel) (p : Nat) (hp : p < l.length) (c : Cel) :
    ((((((((flat l).set (p * 8) (.int .i64 c.k)).set (p * 8 + 1) (.bool c.b)).set (p * 8 + 2) (.bool c.neg)).set (p * 8 + 3) (.slice c.ma c.mn c.mc)).set (p * 8 + 4) (.int .i64 c.e)).set (p * 8 + 5) (.string c.s)).set (p * 8 + 6) (.slice c.ka c.kn c.kc)).set (p * 8 + 7) (.slice c.va c.vn c.vc) = flat (l.set p c) := by
  apply List.ext_getElem?
  intro q
  simp only [List.getElem?_set, List.length_set, flat_len]
  by_cases hq : q < l.length * 8
  · have h1 := flat_get (l.set p c) (q / 8) (q % 8) (by simp; omega) (Nat.mod_lt _ (by decide))
    rw [show q / 8 * 8 + q % 8 = q by omega] at h1
    rw [h1, List.getElem_set]
    have h2 := flat_get l (q / 8) (q % 8) (by omega) (Nat.mod_lt _ (by decide))
    rw [show q / 8 * 8 + q % 8 = q by omega] at h2
    by_cases e : p = q / 8
    · rw [if_pos e]
      have h8 : q % 8 = 0 ∨ q % 8 = 1 ∨ q % 8 = 2 ∨ q % 8 = 3 ∨ q % 8 = 4 ∨ q % 8 = 5 ∨ q % 8 = 6 ∨ q % 8 = 7 := by omega
      rcases h8 with h | h | h | h | h | h | h | h
      all_goals
        have hq' : q = p * 8 + q % 8 := by omega
        rw [h] at hq' ⊢
        clear h h1 h2
        subst hq'
        simp [Cel.cells]
        try omega
    · rw [if_neg e, ← h2]
      repeat (rw [if_neg (by omega)])
  · repeat (rw [if_neg (by omega)])
    rw [List.getElem?_eq_none (by rw [flat_len]; omega), List.getElem?_eq_none (by rw [flat_len]; simp; omega)]
/-- The world behind the store of a tree. -/
def put8 (w : World) (b q : Nat) (c : Cel) : World :=
  (((((((w.setCell ⟨b, q, none⟩ (.int .i64 c.k)).setCell ⟨b, q + 1, none⟩ (.bool c.b)).setCell ⟨b, q + 2, none⟩ (.bool c.neg)).setCell ⟨b, q + 3, none⟩ (.slice c.ma c.mn c.mc)).setCell ⟨b, q + 4, none⟩ (.int .i64 c.e)).setCell ⟨b, q + 5, none⟩ (.string c.s)).setCell ⟨b, q + 6, none⟩ (.slice c.ka c.kn c.kc)).setCell ⟨b, q + 7, none⟩ (.slice c.va c.vn c.vc)
theorem put8_blk {w : World} {b : Nat} {l : List Cel} (h : BlkV w b 28 (flat l)) (p : Nat) (hp : p < l.length) (c : Cel) : BlkV (put8 w b (p * 8) c) b 28 (flat (l.set p c)) := by
  rw [← flat_set l p hp c]
  exact (((((((h.set _ _).set _ _).set _ _).set _ _).set _ _).set _ _).set _ _).set _ _
theorem put8_but (w : World) (b q : Nat) (c : Cel) : But b w (put8 w b q c) :=
  ((((((((But.refl b w).setCell _ _).setCell _ _).setCell _ _).setCell _ _).setCell _ _).setCell _ _).setCell _ _).setCell _ _
theorem blk_olds {W : World} {g k : Nat} {l : List Cel} (h : BlkV W g 28 (flat l)) (hk : k < l.length) :
    (∃ z, W.cell? ⟨g, k * 8, none⟩ = some z) ∧ (∃ z, W.cell? ⟨g, k * 8 + 1, none⟩ = some z) ∧ (∃ z, W.cell? ⟨g, k * 8 + 2, none⟩ = some z) ∧ (∃ z, W.cell? ⟨g, k * 8 + 3, none⟩ = some z) ∧
    (∃ z, W.cell? ⟨g, k * 8 + 4, none⟩ = some z) ∧ (∃ z, W.cell? ⟨g, k * 8 + 5, none⟩ = some z) ∧ (∃ z, W.cell? ⟨g, k * 8 + 6, none⟩ = some z) ∧ (∃ z, W.cell? ⟨g, k * 8 + 7, none⟩ = some z) := by
  have key : ∀ j, j < 8 → ∃ z, W.cell? ⟨g, k * 8 + j, none⟩ = some z := fun j hj => by
    rw [h.cell]
    have : k * 8 + j < (flat l).length := by rw [flat_len]; omega
    exact ⟨_, List.getElem?_eq_getElem this⟩
  exact ⟨key 0 (by decide), key 1 (by decide), key 2 (by decide), key 3 (by decide), key 4 (by decide), key 5 (by decide), key 6 (by decide), key 7 (by decide)⟩

end Go.Proofs.YtipibipaocpojaaDoor
