/- Slices of bytes in the world: read, owned, written. (As XWorld's for limbs.) append of bytes, as a law of the walk. Decimal digits, as plain lists: no walk. -/
import Derived.Test.YtogapgjilbcbfaaGreatDoorA7
namespace Go.Proofs.YtogapgjilbcbfaaGreatDoor
open Go.RowKit
set_option linter.unusedVariables false
set_option linter.unusedSimpArgs false

def Okb (xs : List Nat) : Prop := ∀ x ∈ xs, x < 256
theorem Okb.nil : Okb [] := by intro x h; cases h
theorem Okb.take {xs : List Nat} (h : Okb xs) (n : Nat) : Okb (xs.take n) := fun y hy => h y (List.mem_of_mem_take hy)
theorem Okb.append {xs ys : List Nat} (h : Okb xs) (k : Okb ys) : Okb (xs ++ ys) := by
  intro y hy; rcases List.mem_append.1 hy with hy | hy
  · exact h y hy
  · exact k y hy
theorem Okb.one {x : Nat} (h : x < 256) : Okb [x] := by
  intro y hy; rw [List.mem_singleton] at hy; omega
theorem Okb.set {xs : List Nat} (h : Okb xs) (i v : Nat) (hv : v < 256) : Okb (xs.set i v) := by
  intro y hy; rcases List.mem_or_eq_of_mem_set hy with hy | hy
  · exact h y hy
  · exact hy ▸ hv
theorem Okb.getD {xs : List Nat} (h : Okb xs) (i : Nat) : xs.getD i 0 < 256 := by
  by_cases hi : i < xs.length
  · simp only [List.getD, List.getElem?_eq_getElem hi, Option.getD_some]; exact h _ (List.getElem_mem hi)
  · simp only [List.getD, List.getElem?_eq_none (Nat.le_of_not_lt hi), Option.getD_none]; decide

/-- A byte as a value. -/
def bv (n : Nat) : Value := .int .u8 (n : Int)

/-- The cells that a slice's address leads to read as these limbs. -/
def Rdb (w : World) (ad : Option Addr) (xs : List Nat) : Prop :=
  ∀ i, i < xs.length → ∃ b o, ad = some ⟨b, o, none⟩ ∧ b < w.heap.size ∧ w.cell? ⟨b, o + i, none⟩ = some (.int .u8 ((xs.getD i 0 : Nat) : Int))

theorem Rdb.at {w : World} {b o : Nat} {xs : List Nat} (h : Rdb w (some ⟨b, o, none⟩) xs) (i : Nat) (hi : i < xs.length) :
    w.cell? ⟨b, o + i, none⟩ = some (.int .u8 ((xs.getD i 0 : Nat) : Int)) := by
  obtain ⟨b', o', e, _, hc⟩ := h i hi
  cases e; exact hc
theorem Rdb.lt {w : World} {ad : Option Addr} {xs : List Nat} (h : Rdb w ad xs) (a : Addr) (e : ad = some a) (hx : 0 < xs.length) : a.block < w.heap.size := by
  obtain ⟨b, o, e', hb, _⟩ := h 0 hx
  rw [e] at e'; cases e'; exact hb
theorem Rdb.apart {w : World} {ad : Option Addr} {xs : List Nat} (h : Rdb w ad xs) {g : Nat} (hg : w.heap.size ≤ g) (a : Addr) (e : ad = some a) (hx : 0 < xs.length) : a.block ≠ g := by
  have := h.lt a e hx; omega
theorem Rdb.nil (w : World) (ad : Option Addr) : Rdb w ad [] := by intro i h; simp at h
theorem Rdb.take {w : World} {ad : Option Addr} {xs : List Nat} (h : Rdb w ad xs) (n : Nat) : Rdb w ad (xs.take n) := by
  intro i hi
  rw [List.length_take] at hi
  obtain ⟨b, o, e, hb, hc⟩ := h i (by omega)
  exact ⟨b, o, e, hb, by rw [hc]; simp [List.getD, show i < n by omega]⟩
theorem Rdb.below {w w' : World} {ad : Option Addr} {xs : List Nat} (h : Rdb w ad xs) (hb : Below w.heap.size w w') : Rdb w' ad xs := by
  intro i hi
  obtain ⟨b, o, e, hlt, hc⟩ := h i hi
  exact ⟨b, o, e, Nat.lt_of_lt_of_le hlt hb.size, by rw [hb.cell (p := ⟨b, o + i, none⟩) hlt]; exact hc⟩
/-- Block g holds these limbs, and then what r says; none of it frozen. -/
def Bkb (w : World) (g : Nat) (ys : List Nat) (r : List Value) : Prop := w.heap[g]? = some (.cells (ys.map bv ++ r).toArray 5 (0, 0))
/-- The world with other limbs in block g. -/
def putb (g : Nat) (ys : List Nat) (r : List Value) (w : World) : World := { w with heap := w.heap.setIfInBounds g (.cells (ys.map bv ++ r).toArray 5 (0, 0)) }

theorem Bkb.lt {w : World} {g : Nat} {ys : List Nat} {r : List Value} (h : Bkb w g ys r) : g < w.heap.size := by
  rcases Nat.lt_or_ge g w.heap.size with h1 | h1
  · exact h1
  · rw [Bkb, Array.getElem?_eq_none h1] at h; cases h
theorem Bkb.cell {w : World} {g : Nat} {ys : List Nat} {r : List Value} (h : Bkb w g ys r) (i : Nat) (hi : i < ys.length) :
    w.cell? ⟨g, i, none⟩ = some (.int .u8 ((ys.getD i 0 : Nat) : Int)) := by
  unfold Bkb at h
  have e : (List.map bv ys ++ r)[i]? = some (bv (ys.getD i 0)) := by
    rw [List.getElem?_append_left (by simpa using hi)]
    simp [List.getD, hi]
  simp only [World.cell?, h]
  simpa [bv] using e
theorem Bkb.free {w : World} {g : Nat} {ys : List Nat} {r : List Value} (h : Bkb w g ys r) (i : Nat) : w.frozen? ⟨g, i, none⟩ = false := by
  unfold Bkb at h
  simp [World.frozen?, h]
theorem Bkb.rd {w : World} {g : Nat} {ys : List Nat} {r : List Value} (h : Bkb w g ys r) (o n : Nat) (hn : o + n ≤ ys.length) : Rdb w (some ⟨g, o, none⟩) ((ys.drop o).take n) := by
  intro i hi
  rw [List.length_take, List.length_drop] at hi
  refine ⟨g, o, rfl, h.lt, ?_⟩
  rw [h.cell (o + i) (by omega)]
  simp [List.getD, show i < n by omega]
theorem Bkb.rd_all {w : World} {g : Nat} {ys : List Nat} {r : List Value} (h : Bkb w g ys r) : Rdb w (some ⟨g, 0, none⟩) ys := by
  have := h.rd 0 ys.length (by omega)
  simpa using this
theorem putb_heap (g : Nat) (ys : List Nat) (r : List Value) (w : World) : (putb g ys r w).heap.size = w.heap.size := by simp [putb]
theorem putb_blk {w : World} {g : Nat} (ys : List Nat) (r : List Value) (h : g < w.heap.size) : Bkb (putb g ys r w) g ys r := by
  simp [Bkb, putb, h]
theorem putb_put (g : Nat) (ys zs : List Nat) (r r' : List Value) (w : World) : putb g ys r (putb g zs r' w) = putb g ys r w := by
  simp [putb]
theorem putb_other (g : Nat) (ys : List Nat) (r : List Value) (w : World) (k : Nat) (h : k ≠ g) : (putb g ys r w).heap[k]? = w.heap[k]? := by
  simp only [putb]; rw [Array.getElem?_setIfInBounds_ne (by omega)]
theorem putb_cell (g : Nat) (ys : List Nat) (r : List Value) (w : World) (a : Addr) (h : a.block ≠ g) : (putb g ys r w).cell? a = w.cell? a :=
  World.cell?_of_block (putb_other g ys r w _ h)
theorem putb_same {w : World} {g : Nat} {ys : List Nat} {r : List Value} (h : Bkb w g ys r) : putb g ys r w = w := by
  have hlt := h.lt
  unfold Bkb at h
  have e : w.heap.setIfInBounds g (.cells (ys.map bv ++ r).toArray 5 (0, 0)) = w.heap := by
    apply Array.ext_getElem?
    intro k
    by_cases hk : k = g
    · subst hk; rw [Array.getElem?_setIfInBounds_self_of_lt hlt, h]
    · rw [Array.getElem?_setIfInBounds_ne (by omega)]
  simp only [putb]; rw [e]
theorem setb_blk {w : World} {g : Nat} {ys : List Nat} {r : List Value} (h : Bkb w g ys r) (i v : Nat) (hi : i < ys.length) : w.setCell ⟨g, i, none⟩ (.int .u8 (v : Int)) = putb g (ys.set i v) r w := by
  have hlt := h.lt
  unfold Bkb at h
  have e : (w.setCell ⟨g, i, none⟩ (.int .u8 (v : Int))).heap = w.heap.setIfInBounds g (.cells ((ys.set i v).map bv ++ r).toArray 5 (0, 0)) := by
    apply Array.ext_getElem?
    intro k
    simp only [World.setCell, Array.getElem?_modify]
    by_cases hk : g = k
    · subst hk; rw [Array.getElem?_setIfInBounds_self_of_lt hlt, h]; simp [bv, hi]
    · rw [if_neg hk, Array.getElem?_setIfInBounds_ne hk]
  unfold putb; rw [← e]; rfl
theorem putb_below {B : Nat} {a w : World} (h : Below B a w) {g : Nat} (hg : B ≤ g) (ys : List Nat) (r : List Value) : Below B a (putb g ys r w) :=
  h.trans ⟨rfl, rfl, rfl, by rw [putb_heap]; exact Nat.le_refl _, fun k hk => putb_other g ys r w k (by omega)⟩
theorem Rdb.putb {w : World} {ad : Option Addr} {xs : List Nat} (h : Rdb w ad xs) {g : Nat} (hne : ∀ a, ad = some a → 0 < xs.length → a.block ≠ g) (ys : List Nat) (r : List Value) : Rdb (putb g ys r w) ad xs := by
  intro i hi
  obtain ⟨b, o, e, hb, hc⟩ := h i hi
  exact ⟨b, o, e, by rw [putb_heap]; exact hb, by rw [putb_cell g ys r w ⟨b, o + i, none⟩ (hne ⟨b, o, none⟩ e (by omega))]; exact hc⟩
theorem Rdb.drewN {w : World} {ad : Option Addr} {xs : List Nat} (h : Rdb w ad xs) (q : Nat) : Rdb (w.drewN q) ad xs := h
theorem Bkb.drewN {w : World} {g : Nat} {ys : List Nat} {r : List Value} (h : Bkb w g ys r) (q : Nat) : Bkb (w.drewN q) g ys r := h
theorem Bkb.below {w w' : World} {g : Nat} {ys : List Nat} {r : List Value} (h : Bkb w g ys r) {B : Nat} (hb : Below B w w') (hg : g < B) : Bkb w' g ys r := by
  unfold Bkb; rw [hb.block g hg]; exact h

/-- A slice of limbs that the call owns: at the head of a block from B on, or none. -/
def Ownb (B : Nat) (w : World) (v : Value) (xs : List Nat) : Prop :=
  Okb xs ∧ ((v = .slice none 0 0 ∧ xs = []) ∨ ∃ g cap r, v = .slice (some ⟨g, 0, none⟩) xs.length cap ∧ B ≤ g ∧ Bkb w g xs r ∧ cap = xs.length + r.length ∧ cap ≤ maxLen)
theorem Ownb.nil (B : Nat) (w : World) : Ownb B w (.slice none 0 0) [] := ⟨Okb.nil, .inl ⟨rfl, rfl⟩⟩
/-- What is owned can be read; its address lies from B on. -/
theorem Ownb.view {B : Nat} {w : World} {v : Value} {xs : List Nat} (h : Ownb B w v xs) :
    ∃ ad cap, v = .slice ad xs.length cap ∧ xs.length ≤ cap ∧ Rdb w ad xs ∧ ∀ a, ad = some a → B ≤ a.block ∧ a.block < w.heap.size := by
  obtain ⟨_, ⟨rfl, rfl⟩ | ⟨g, cap, r, rfl, hg, hb, hc, _⟩⟩ := h
  · exact ⟨none, 0, rfl, Nat.le_refl _, Rdb.nil _ _, fun a h => by cases h⟩
  · exact ⟨_, cap, rfl, by omega, hb.rd_all, fun a h => by cases h; exact ⟨hg, hb.lt⟩⟩
theorem Ownb.mono {B B' : Nat} {w : World} {v : Value} {xs : List Nat} (h : Ownb B w v xs) (hB : B' ≤ B) : Ownb B' w v xs := by
  obtain ⟨ho, h | ⟨g, cap, r, e, hg, hb, hc⟩⟩ := h
  · exact ⟨ho, .inl h⟩
  · exact ⟨ho, .inr ⟨g, cap, r, e, by omega, hb, hc⟩⟩
theorem Ownb.below {B : Nat} {w w' : World} {v : Value} {xs : List Nat} (h : Ownb B w v xs) (hb : Below w.heap.size w w') : Ownb B w' v xs := by
  obtain ⟨ho, h | ⟨g, cap, r, e, hg, hk, hc⟩⟩ := h
  · exact ⟨ho, .inl h⟩
  · exact ⟨ho, .inr ⟨g, cap, r, e, hg, hk.below hb hk.lt, hc⟩⟩
theorem Ownb.drewN {B : Nat} {w : World} {v : Value} {xs : List Nat} (h : Ownb B w v xs) (q : Nat) : Ownb B (w.drewN q) v xs := h
/-- A piece at the head of what is owned is owned. -/
theorem Bkb.own {w : World} {g B : Nat} {ys : List Nat} {r : List Value} (h : Bkb w g ys r) (hg : B ≤ g) (ho : Okb ys) (n cap : Nat) (hn : n ≤ ys.length) (hc : cap = ys.length + r.length) (hm : cap ≤ maxLen) :
    Ownb B w (.slice (some ⟨g, 0, none⟩) n cap) (ys.take n) := by
  refine ⟨ho.take n, .inr ⟨g, cap, (ys.drop n).map bv ++ r, ?_, hg, ?_, ?_, hm⟩⟩
  · rw [List.length_take, Nat.min_eq_left hn]
  · unfold Bkb at h ⊢; rw [h, ← List.append_assoc, ← List.map_append, List.take_append_drop]
  · simp; omega
end Go.Proofs.YtogapgjilbcbfaaGreatDoor
namespace Go.Proofs.YtogapgjilbcbfaaGreatDoor
open Go.RowKit
set_option linter.unusedVariables false
set_option linter.unusedSimpArgs false

theorem info_u8 : (Tryz.prog.info? 5).map (fun i => (i.zero, i.size, i.bytes)) = some (some (.int .u8 0), 1, 1) := by kernel_rfl
theorem Ownb.row {B : Nat} {w : World} {v : Value} {xs : List Nat} (h : Ownb B w v xs) : w.ownsRow B 5 1 v xs.length (xs.map bv) := by
  obtain ⟨_, ⟨rfl, rfl⟩ | ⟨g, cap, r, rfl, hg, hb, hc, hm⟩⟩ := h
  · exact ⟨by simp, .inl ⟨rfl, rfl⟩⟩
  · refine ⟨by simp, .inr ⟨g, cap, _, rfl, hg, hb, by omega, hm, by simp; omega, ?_⟩⟩
    simp
theorem ownb_of_row {B : Nat} {w : World} {v : Value} {n : Nat} {xs : List Nat} (h : w.ownsRow B 5 1 v n (xs.map bv)) (ho : Okb xs) : Ownb B w v xs := by
  obtain ⟨hl, ⟨rfl, rfl⟩ | ⟨g, cap, cur, rfl, hg, hb, hc, hm, hs, ht⟩⟩ := h
  · have : xs = [] := List.eq_nil_of_length_eq_zero (by simpa using hl)
    subst this
    exact Ownb.nil _ _
  · simp only [List.length_map, Nat.mul_one] at hl
    subst hl
    refine ⟨ho, .inr ⟨g, cap, cur.toList.drop xs.length, rfl, hg, ?_, ?_, hm⟩⟩
    · unfold Bkb; rw [hb]
      have : cur = (xs.map bv ++ cur.toList.drop xs.length).toArray := by
        rw [← ht, Nat.mul_one, List.take_append_drop]
      rw [← this]
    · have : cur.toList.length = cap := by simpa using hs
      rw [List.length_drop, this]; omega
theorem Ownb.blockGe {B : Nat} {w : World} {v : Value} {xs : List Nat} (h : Ownb B w v xs) : ∀ k, v.ownBlock = some k → B ≤ k := by
  obtain ⟨_, ⟨rfl, rfl⟩ | ⟨g, cap, r, rfl, hg, _⟩⟩ := h
  · intro k e; cases e
  · intro k e; cases e; exact hg

theorem wpl_appendb {w : World} {ops : Array Oper} {rest : List Oper} {o : Oper} {a : Act} {Q : Exit → Act → World → Prop} (hgd : o.guard = none) (s x : Operand)
    (ho : o.op = .call { callee := .builtin .append, args := #[s, x], argTypes := #[72, 72] }) (B : Nat) (v : Value) (xs : List Nat) (hs : a.eval s = v) (hown : Ownb B w v xs)
    (ad : Addr) (c : Nat) (y : Nat) (hx : a.eval x = .slice (some ad) 1 c) (hy : y < 256) (hc : w.cell? ad = some (.int .u8 (y : Int))) (hl : xs.length ≤ 1000000000) (hB : B ≤ w.heap.size)
    (h : ∀ v' w', Ownb B w' v' (xs ++ [y]) → Below B w w' → w.grownBy w' v.ownBlock → wpList Tryz.prog ops Q rest (a.put o.dst v') w') : wpList Tryz.prog ops Q (o :: rest) a w := by
  obtain ⟨i0, hi, hz0, hz1, hz2⟩ := info_parts info_u8
  refine wpList_append_own w hgd s x 72 ho B 5 i0 (.int .u8 0) 1 1 Tryz.underlying72 hi hz0 hz1 hz2 rfl (by decide) v xs.length (xs.map bv) hs hown.row ad 1 c [bv y] hx rfl ?_ ?_ (by unfold maxLen; omega) (by omega) hB ?_
  · intro j u hj
    rcases j with _ | j
    · simp only [List.getElem?_cons_zero, Option.some.injEq] at hj
      subst hj; simpa [Addr.add, bv] using hc
    · simp at hj
  · intro u hu; simp only [List.mem_singleton] at hu; subst hu; rfl
  · intro v' w' hown' hgr _
    refine h v' w' ?_ ((Below.refl _ _).grown hgr hB hown.blockGe) hgr
    have e : xs.map bv ++ [bv y] = (xs ++ [y]).map bv := by simp
    rw [e] at hown'
    exact ownb_of_row hown' (hown.1.append (Okb.one hy))
end Go.Proofs.YtogapgjilbcbfaaGreatDoor
namespace Go.Proofs.YtogapgjilbcbfaaGreatDoor
open Go.RowKit
set_option linter.unusedVariables false
set_option linter.unusedSimpArgs false

/-- The value of digits, the lowest first. -/
def dval : List Nat → Nat
  | [] => 0
  | x :: xs => (x - 48) + 10 * dval xs
def Okd (xs : List Nat) : Prop := ∀ x ∈ xs, 48 ≤ x ∧ x ≤ 57
theorem Okd.nil : Okd [] := by intro x h; cases h
theorem Okd.b {xs : List Nat} (h : Okd xs) : Okb xs := fun x hx => by have := h x hx; omega
theorem Okd.snoc {xs : List Nat} {x : Nat} (h : Okd xs) (h1 : 48 ≤ x) (h2 : x ≤ 57) : Okd (xs ++ [x]) := by
  intro y hy; rcases List.mem_append.1 hy with hy | hy
  · exact h y hy
  · rw [List.mem_singleton] at hy; omega
theorem Okd.take {xs : List Nat} (h : Okd xs) (n : Nat) : Okd (xs.take n) := fun y hy => h y (List.mem_of_mem_take hy)
theorem Okd.tail {x : Nat} {xs : List Nat} (h : Okd (x :: xs)) : Okd xs := fun y hy => h y (by simp [hy])
theorem Okd.rev {xs : List Nat} (h : Okd xs) : Okd xs.reverse := fun y hy => h y (List.mem_reverse.1 hy)
theorem dval_snoc (xs : List Nat) (x : Nat) : dval (xs ++ [x]) = dval xs + tenN xs.length * (x - 48) := by
  induction xs with
  | nil => simp [dval, tenN]
  | cons y ys ih => simp only [List.cons_append, dval, ih, List.length_cons, tenN_succ]; grind

/-- The digits of a natural, the lowest first: none for 0. -/
def declF : Nat → Nat → List Nat
  | 0, _ => []
  | f + 1, N => if N = 0 then [] else (48 + N % 10) :: declF f (N / 10)
def decl (N : Nat) : List Nat := declF N N
theorem declF_eq : ∀ (f g N : Nat), N ≤ f → N ≤ g → declF f N = declF g N := by
  intro f
  induction f with
  | zero => intro g N h _; obtain rfl : N = 0 := by omega
            cases g <;> simp [declF]
  | succ f ih =>
    intro g N h k
    cases g with
    | zero => obtain rfl : N = 0 := by omega
              simp [declF]
    | succ g =>
      simp only [declF]
      split
      · rfl
      · rw [ih g (N / 10) (by omega) (by omega)]
theorem decl_zero : decl 0 = [] := rfl
theorem decl_pos {N : Nat} (h : N ≠ 0) : decl N = (48 + N % 10) :: decl (N / 10) := by
  unfold decl
  obtain ⟨f, rfl⟩ : ∃ f, N = f + 1 := ⟨N - 1, by omega⟩
  conv => lhs; rw [declF, if_neg h]
  rw [declF_eq f ((f + 1) / 10) _ (by omega) (Nat.le_refl _)]
theorem decl_ind {P : Nat → Prop} (z : P 0) (s : ∀ N, N ≠ 0 → P (N / 10) → P N) : ∀ N, P N := by
  intro N
  induction N using Nat.strongRecOn with
  | _ N ih =>
    by_cases h : N = 0
    · subst h; exact z
    · exact s N h (ih _ (by omega))
theorem decl_ok (N : Nat) : Okd (decl N) := by
  refine decl_ind (P := fun N => Okd (decl N)) Okd.nil ?_ N
  intro N h ih; rw [decl_pos h]
  intro y hy; rcases List.mem_cons.1 hy with rfl | hy
  · omega
  · exact ih y hy
theorem dval_decl (N : Nat) : dval (decl N) = N := by
  refine decl_ind (P := fun N => dval (decl N) = N) rfl ?_ N
  intro N h ih; rw [decl_pos h, dval, ih]; omega
/-- Digits whose highest is no nought are those of their value. -/
theorem decl_dval {xs : List Nat} (h : Okd xs) (ht : ∀ n, xs.length = n + 1 → xs.getD n 0 ≠ 48) : decl (dval xs) = xs := by
  induction xs with
  | nil => rfl
  | cons x xs ih =>
    have hx : decl (dval xs) = xs := ih h.tail (fun n hn => by have := ht (n + 1) (by simp [hn]); simpa using this)
    have h0 := h x (by simp)
    have hne : dval (x :: xs) ≠ 0 := by
      cases xs with
      | nil => have := ht 0 rfl; simp at this; simp [dval]; omega
      | cons y ys =>
        intro h1
        simp only [dval] at h1
        have h2 : dval (y :: ys) = 0 := by simp only [dval]; omega
        rw [h2] at hx; cases hx
    rw [decl_pos hne]
    have hm : dval (x :: xs) % 10 = x - 48 := by simp only [dval]; omega
    have hd : dval (x :: xs) / 10 = dval xs := by simp only [dval]; omega
    rw [hm, hd, hx, show 48 + (x - 48) = x by omega]
theorem dval_lt (xs : List Nat) (h : Okd xs) : dval xs < tenN xs.length := by
  induction xs with
  | nil => simp [dval, tenN]
  | cons x xs ih =>
    have := ih h.tail
    have h0 := h x (by simp)
    simp only [dval, List.length_cons, tenN_succ]; omega
theorem decl_len_le {n N : Nat} (h : N < tenN n) : (decl N).length ≤ n := by
  induction n generalizing N with
  | zero => obtain rfl : N = 0 := by simpa [tenN] using h
            simp [decl_zero]
  | succ n ih =>
    by_cases h0 : N = 0
    · subst h0; simp [decl_zero]
    · rw [decl_pos h0, List.length_cons]
      rw [tenN_succ] at h
      have := ih (N := N / 10) (by omega)
      omega
theorem decl_ne {N : Nat} (h : N ≠ 0) : decl N ≠ [] := by rw [decl_pos h]; simp

/-- The digits without the noughts at their end. -/
def trimLen (xs : List Nat) : Nat → Nat
  | 0 => 0
  | n + 1 => if xs.getD n 0 = 48 then trimLen xs n else n + 1
theorem trimLen_le (xs : List Nat) : ∀ n, trimLen xs n ≤ n
  | 0 => Nat.le_refl _
  | n + 1 => by unfold trimLen; split; exact Nat.le_succ_of_le (trimLen_le xs n); exact Nat.le_refl _
theorem dval_take_succ (xs : List Nat) (n : Nat) (h : n < xs.length) : dval (xs.take (n + 1)) = dval (xs.take n) + tenN n * (xs.getD n 0 - 48) := by
  rw [List.take_succ_eq_append_getElem h, dval_snoc, List.length_take, Nat.min_eq_left (by omega)]
  simp [List.getD, h]
theorem dval_trim (xs : List Nat) : ∀ n, n ≤ xs.length → dval (xs.take (trimLen xs n)) = dval (xs.take n)
  | 0, _ => rfl
  | n + 1, h => by
    unfold trimLen; split
    · rename_i h0; rw [dval_trim xs n (by omega), dval_take_succ _ _ (by omega), h0]; simp
    · rfl
theorem trim_top (xs : List Nat) : ∀ n m, trimLen xs n = m + 1 → xs.getD m 0 ≠ 48
  | 0, m, h => by simp [trimLen] at h
  | n + 1, m, h => by
    unfold trimLen at h; split at h
    · exact trim_top xs n m h
    · rename_i h0; obtain rfl : n = m := by omega
      exact h0
theorem trim_decl {xs : List Nat} (h : Okd xs) : xs.take (trimLen xs xs.length) = decl (dval xs) := by
  have hl := trimLen_le xs xs.length
  have e : dval (xs.take (trimLen xs xs.length)) = dval xs := by rw [dval_trim _ _ (Nat.le_refl _), List.take_length]
  rw [← e]
  refine (decl_dval (h.take _) ?_).symm
  intro n hn
  rw [List.length_take, Nat.min_eq_left hl] at hn
  have := trim_top xs _ n hn
  simpa [List.getD, List.getElem?_take, hn] using this

/-- The digits as they are told, the highest first. -/
def dec (N : Nat) : List Nat := if N = 0 then [48] else (decl N).reverse
/-- A text of bytes. -/
def txt (l : List Nat) : ByteArray := ⟨(l.map UInt8.ofNat).toArray⟩
theorem txt_size (l : List Nat) : (txt l).size = l.length := by simp [txt, ByteArray.size]
theorem dec_ok (N : Nat) : Okd (dec N) := by
  unfold dec; split
  · intro x hx; rw [List.mem_singleton] at hx; omega
  · exact (decl_ok N).rev
theorem dval_dec (N : Nat) : dval (dec N).reverse = N := by
  unfold dec; split
  · rename_i h; subst h; rfl
  · rw [List.reverse_reverse, dval_decl]
theorem dec_len_le {n N : Nat} (hn : 0 < n) (h : N < tenN n) : (dec N).length ≤ n := by
  unfold dec; split
  · simp; omega
  · rw [List.length_reverse]; exact decl_len_le h
theorem dec_pos (N : Nat) : 0 < (dec N).length := by
  unfold dec; split
  · simp
  · rename_i h; rw [List.length_reverse]; exact List.length_pos_iff.2 (decl_ne h)
end Go.Proofs.YtogapgjilbcbfaaGreatDoor
