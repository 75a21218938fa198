/- Append of whatever can be read to a list that the call owns, elements of any size: as a law of the walk and as a step of a region that draws. -/
import Derived.Test.YtndjdmgncjiggaaQK7
import Derived.Deep.RegionLaw
import Derived.Test.YtndjdmgncjiggaaRows
import Derived.Below
import Derived.WalkKit
import Derived.WalkSpells
import Derived.WalkLawsBesides
namespace Go.Proofs.Ytndjdmgncjiggaa
open Go.RowKit
set_option linter.unusedVariables false
set_option linter.unusedSimpArgs false

section
variable {t e : TypeId} {z : Value} {size bytes : Nat}
theorem wp_appV (ht : Try.prog.underlying t = some (.slice e)) (hi : (Try.prog.info? e).map (fun i => (i.zero, i.size, i.bytes)) = some (some z, size, bytes)) (hzs : z.cells.size = size) (hsz : 0 < size) (hby : bytes ≤ 1000) (w : World) {o : Oper} {a : Act} {K : Act → World → Prop} {Q : Exit → Act → World → Prop}
    (s x : Operand) (hop : o.op = .call { callee := .builtin .append, args := #[s, x], argTypes := #[t, t] })
    (B : Nat) (v : Value) (n : Nat) (xs : List Value) (hs : a.eval s = v) (hown : w.ownsRow B e size v n xs) (ad : Option Addr) (m c : Nat) (news : List Value) (hx : a.eval x = .slice ad m c) (hl : news.length = m * size) (hr : RdV w ad news) (h1 : ∀ u ∈ news, u.oneCell' = true) (h0 : ad = none → c = 0)
    (hn : n + m ≤ 1000000000) (hB : B ≤ w.heap.size)
    (h : ∀ v' w', w'.ownsRow B e size v' (n + m) (xs ++ news) → w.grownBy w' v.ownBlock → K (a.put o.dst v') w') : o.wp Try.prog a w K Q := by
  obtain ⟨i0, hi, hz0, hz1, hz2⟩ := info_parts hi
  cases ad with
  | none =>
    have hnil : news = [] := by
      rcases Nat.eq_zero_or_pos news.length with h0 | h0
      · exact List.eq_nil_of_length_eq_zero h0
      · obtain ⟨_, _, e, _⟩ := hr 0 h0
        cases e
    subst hnil
    obtain rfl : m = 0 := by
      rcases Nat.eq_zero_or_pos m with h | h
      · exact h
      · have := Nat.mul_pos h hsz; simp at hl; omega
    obtain rfl := h0 rfl
    have hrun := run_append_owned_none (P := Try.prog) (w := w) B t o.type e i0 size ht hi v n xs hown
    unfold Oper.wp execOp
    simp only [hop, resolve, invoke, builtin, Sem.run_bind, Sem.run_pure, Result.andThen_ok, List.map_toArray, List.map_cons, List.map_nil, hs, hx, hrun]
    exact h v w (by simpa using hown) (World.grownBy.refl _ _)
  | some ad =>
    refine wp_append_own w s x t hop B e i0 z size bytes ht hi hz0 hz1 hz2 hzs hsz v n xs hs hown ad m c news hx hl ?_ h1 (by unfold maxLen; omega) (by
      have : (n + m) * bytes ≤ (n + m) * 1000 := Nat.mul_le_mul_left _ hby
      omega) hB (fun v' w' h1 h2 _ => h v' w' h1 h2)
    intro j u hj
    have hjl : j < news.length := (List.getElem?_eq_some_iff.1 hj).1
    obtain ⟨b, o', e, _, hc⟩ := hr j hjl
    cases e
    have hadd : (⟨b, o', none⟩ : Addr).add j = ⟨b, o' + j, none⟩ := by unfold Addr.add; split <;> simp_all
    rw [hadd, hc, hj]
theorem wpl_appV (ht : Try.prog.underlying t = some (.slice e)) (hi : (Try.prog.info? e).map (fun i => (i.zero, i.size, i.bytes)) = some (some z, size, bytes)) (hzs : z.cells.size = size) (hsz : 0 < size) (hby : bytes ≤ 1000) (w : World) {ops : Array Oper} {rest : List Oper} {o : Oper} {a : Act} {Q : Exit → Act → World → Prop}
    (hg : o.guard = none) (s x : Operand) (hop : o.op = .call { callee := .builtin .append, args := #[s, x], argTypes := #[t, t] })
    (B : Nat) (v : Value) (n : Nat) (xs : List Value) (hs : a.eval s = v) (hown : w.ownsRow B e size v n xs) (ad : Option Addr) (m c : Nat) (news : List Value) (hx : a.eval x = .slice ad m c) (hl : news.length = m * size) (hr : RdV w ad news) (h1 : ∀ u ∈ news, u.oneCell' = true) (h0 : ad = none → c = 0)
    (hn : n + m ≤ 1000000000) (hB : B ≤ w.heap.size)
    (h : ∀ v' w', w'.ownsRow B e size v' (n + m) (xs ++ news) → w.grownBy w' v.ownBlock → wpList Try.prog ops Q rest (a.put o.dst v') w') :
    wpList Try.prog ops Q (o :: rest) a w := by
  refine wpList_plain hg fun K hK => ?_
  exact wp_appV ht hi hzs hsz hby w s x hop B v n xs hs hown ad m c news hx hl hr h1 h0 hn hB (fun v' w' h1 h2 => hK _ _ (h v' w' h1 h2))
theorem step_appV (ht : Try.prog.underlying t = some (.slice e)) (hi : (Try.prog.info? e).map (fun i => (i.zero, i.size, i.bytes)) = some (some z, size, bytes)) (hzs : z.cells.size = size) (hsz : 0 < size) (hby : bytes ≤ 1000) (w : World) {ops : Array Oper} {o : Oper} {a : Act} {K : Act → World → Prop} {Q : Exit → Act → World → Prop} {E : Prop}
    (hg : o.guard = none) (s x : Operand) (hop : o.op = .call { callee := .builtin .append, args := #[s, x], argTypes := #[t, t] })
    (B : Nat) (v : Value) (n : Nat) (xs : List Value) (hs : a.eval s = v) (hown : w.ownsRow B e size v n xs) (ad : Option Addr) (m c : Nat) (news : List Value) (hx : a.eval x = .slice ad m c) (hl : news.length = m * size) (hr : RdV w ad news) (h1 : ∀ u ∈ news, u.oneCell' = true) (h0 : ad = none → c = 0)
    (hn : n + m ≤ 1000000000) (hB : B ≤ w.heap.size)
    (h : ∀ v' w', w'.ownsRow B e size v' (n + m) (xs ++ news) → w.grownBy w' v.ownBlock → K (a.put o.dst v') w') :
    if Region.wanted o (yielded ops a.tmps) = true then Oper.wp Try.prog o a w K Q else E := by
  have hw : Region.wanted o (yielded ops a.tmps) = true := by simp [Region.wanted, hg]
  rw [if_pos hw]
  exact wp_appV ht hi hzs hsz hby w s x hop B v n xs hs hown ad m c news hx hl hr h1 h0 hn hB h
end
/-- What is owned can be read, elements of any size. -/
theorem own_viewN {w : World} {B : Nat} {e : TypeId} {size : Nat} {v : Value} {n : Nat} {vs : List Value} (h : w.ownsRow B e size v n vs) :
    ∃ ad cap, v = .slice ad n cap ∧ n ≤ cap ∧ RdV w ad vs ∧ vs.length = n * size ∧ (∀ a, ad = some a → B ≤ a.block ∧ a.block < w.heap.size) ∧ (ad = none → cap = 0 ∧ n = 0) := by
  have hl : vs.length = n * size := h.1
  rcases h.2 with ⟨rfl, h0⟩ | ⟨g, cap, cur, rfl, hB, hg, hc, hm, hs, ht⟩
  · subst h0
    have : vs = [] := List.eq_nil_of_length_eq_zero (by simpa using hl)
    subst this
    exact ⟨none, 0, rfl, Nat.le_refl _, RdV.nil _ _, by simp, (fun a h => by cases h), fun _ => ⟨rfl, rfl⟩⟩
  · have hlt : g < w.heap.size := (Array.getElem?_eq_some_iff.1 hg).1
    refine ⟨_, cap, rfl, hc, ?_, hl, (fun a h => by cases h; exact ⟨hB, hlt⟩), fun h => by cases h⟩
    intro i hi
    refine ⟨g, 0, rfl, hlt, ?_⟩
    have hv : vs[i]? = some vs[i] := List.getElem?_eq_getElem hi
    have := World.ownsRow.cells h (g := g) rfl i vs[i] hv
    have hadd : (⟨g, 0, none⟩ : Addr).add i = ⟨g, 0 + i, none⟩ := by unfold Addr.add; split <;> simp_all
    rw [hadd] at this
    rw [this, hv]
theorem own_onN {w w' : World} {B : Nat} {e : TypeId} {size : Nat} {v : Value} {n : Nat} {xs : List Value} (h : w.ownsRow B e size v n xs) (hb : Below w.heap.size w w') : w'.ownsRow B e size v n xs := by
  refine ⟨h.1, ?_⟩
  rcases h.2 with h2 | ⟨g, cap, cur, rfl, hB, hg, rest⟩
  · exact .inl h2
  · refine .inr ⟨g, cap, cur, rfl, hB, ?_, rest⟩
    rw [hb.block g (Array.getElem?_eq_some_iff.1 hg).1]; exact hg
end Go.Proofs.Ytndjdmgncjiggaa
/- The fifth layer's awake; trees that are made at a place. -/
namespace Go.Proofs.Ytndjdmgncjiggaa
open Go.RowKit Go.Shelf
set_option linter.unusedVariables false
set_option linter.unusedSimpArgs false

theorem lm0 : (0 : Nat) ≤ 1000000000000000 := Nat.zero_le _
theorem li0 : -9223372036854775808 ≤ (0 : Int) ∧ (0 : Int) ≤ 9223372036854775807 := by decide
theorem li3 : -9223372036854775808 ≤ (3 : Int) ∧ (3 : Int) ≤ 9223372036854775807 := by decide
theorem li6 : -9223372036854775808 ≤ (6 : Int) ∧ (6 : Int) ≤ 9223372036854775807 := by decide
theorem li7 : -9223372036854775808 ≤ (7 : Int) ∧ (7 : Int) ≤ 9223372036854775807 := by decide
/-- A value without others in it. -/
def leafC (k : Int) (b : Bool) (s : ByteArray) : Cel := ⟨k, b, false, none, 0, 0, 0, s, none, 0, 0, none, 0, 0⟩
def leafT (k : Int) (b : Bool) (s : ByteArray) : MT := .mk (leafC k b s) [] [] []
theorem leafT_rep (w : World) (k : Int) (b : Bool) (s : ByteArray) (hk : -9223372036854775808 ≤ k ∧ k ≤ 9223372036854775807) (hs : s.size ≤ maxLen) : Rep w (leafT k b s) :=
  Rep.mk ⟨rfl, Nat.le_refl _, Okl.nil, Rd.nil _ _, rfl, Nat.le_refl _, RdV.nil _ _, rfl, Nat.le_refl _, RdV.nil _ _, ⟨lm0, lm0, lm0⟩, hs, nofun, li0, hk⟩ nofun
/-- An array. -/
def arrC (va : Option Addr) (n cap : Nat) : Cel := ⟨6, false, false, none, 0, 0, 0, ⟨#[]⟩, none, 0, 0, va, n, cap⟩
def arrT (va : Option Addr) (n cap : Nat) (l : List MT) : MT := .mk (arrC va n cap) [] [] l
theorem arrT_rep {w : World} {va : Option Addr} {n cap : Nat} {l : List MT} (hl : l.length = n) (hc : n ≤ cap) (hm : n ≤ 1000000000000000) (hr : RdV w va (flat (l.map MT.c))) (hp : ∀ t ∈ l, Rep w t) : Rep w (arrT va n cap l) :=
  Rep.mk ⟨rfl, Nat.le_refl _, Okl.nil, Rd.nil _ _, rfl, Nat.le_refl _, RdV.nil _ _, hl, hc, hr, ⟨lm0, lm0, hm⟩, Nat.zero_le _, nofun, li0, li6⟩ hp
/-- An object. -/
def objC7 (ka : Option Addr) (kn kc : Nat) (va : Option Addr) (n cap : Nat) : Cel := ⟨7, false, false, none, 0, 0, 0, ⟨#[]⟩, ka, kn, kc, va, n, cap⟩
def objT (ka : Option Addr) (kn kc : Nat) (va : Option Addr) (n cap : Nat) (ks : List ByteArray) (l : List MT) : MT := .mk (objC7 ka kn kc va n cap) [] ks l
theorem objT_rep {w : World} {ka : Option Addr} {kn kc : Nat} {va : Option Addr} {n cap : Nat} {ks : List ByteArray} {l : List MT} (hkl : ks.length = kn) (hkc : kn ≤ kc) (hkm : kn ≤ 1000000000000000) (hkr : RdV w ka (sv ks)) (hks : ∀ s ∈ ks, s.size ≤ maxLen) (hl : l.length = n) (hc : n ≤ cap) (hm : n ≤ 1000000000000000) (hr : RdV w va (flat (l.map MT.c))) (hp : ∀ t ∈ l, Rep w t) : Rep w (objT ka kn kc va n cap ks l) :=
  Rep.mk ⟨rfl, Nat.le_refl _, Okl.nil, Rd.nil _ _, hkl, hkc, hkr, hl, hc, hr, ⟨lm0, hkm, hm⟩, Nat.zero_le _, hks, li0, li7⟩ hp
/-- A number. -/
def numC (neg : Bool) (ma : Option Addr) (mn mc : Nat) (e : Int) : Cel := ⟨3, false, neg, ma, mn, mc, e, ⟨#[]⟩, none, 0, 0, none, 0, 0⟩
def numT (neg : Bool) (ma : Option Addr) (mn mc : Nat) (e : Int) (m : List Nat) : MT := .mk (numC neg ma mn mc e) m [] []
theorem numT_rep {w : World} {neg : Bool} {ma : Option Addr} {mn mc : Nat} {e : Int} {m : List Nat} (hl : m.length = mn) (hc : mn ≤ mc) (hm : mn ≤ 1000000000000000) (ho : Okl m) (hr : Rd w ma m) (he : -9223372036854775808 ≤ e ∧ e ≤ 9223372036854775807) : Rep w (numT neg ma mn mc e m) :=
  Rep.mk ⟨hl, hc, ho, hr, rfl, Nat.le_refl _, RdV.nil _ _, rfl, Nat.le_refl _, RdV.nil _ _, ⟨hm, lm0, lm0⟩, Nat.zero_le _, nofun, he, li3⟩ nofun
/-- A block of values, just laid. -/
theorem rdv_new (w : World) (vs : List Value) (e : TypeId) : RdV (w.alloc (.cells vs.toArray e)) (some ⟨w.heap.size, 0, none⟩) vs :=
  BlkV.all (e := e) (by unfold BlkV; exact heap_alloc_new w _)
theorem rd_new (w : World) (x : Nat) : Rd (w.alloc (.cells #[.int .u32 (x : Int)] 59)) (some ⟨w.heap.size, 0, none⟩) [x] := by
  have h : Blk (w.alloc (.cells #[.int .u32 (x : Int)] 59)) w.heap.size [x] [] := by unfold Blk; exact heap_alloc_new w _
  exact h.rd_all

/-- The document's example. -/
def awT (b : Nat) : MT := objT (some ⟨b, 0, none⟩) 1 1 (some ⟨b + 1 + 1 + 1, 0, none⟩) 1 1 [⟨#[97]⟩] [arrT (some ⟨b + 1 + 1, 0, none⟩) 2 2 [numT false (some ⟨b + 1, 0, none⟩) 1 1 0 [1], leafT 4 false ⟨#[120, 121]⟩]]
theorem awT_pre (b : Nat) : (awT b).pre 1 = [(1, awT b), (2, arrT (some ⟨b + 1 + 1, 0, none⟩) 2 2 [numT false (some ⟨b + 1, 0, none⟩) 1 1 0 [1], leafT 4 false ⟨#[120, 121]⟩]), (3, numT false (some ⟨b + 1, 0, none⟩) 1 1 0 [1]), (3, leafT 4 false ⟨#[120, 121]⟩)] := by
  simp [MT.pre_eq, MT.preL_cons, MT.preL_nil, awT, objT, arrT, numT, leafT, MT.v]
theorem awT_nodes (b : Nat) : (awT b).nodes = 4 := by rw [← (awT b).pre_len 1, awT_pre]; rfl
theorem awT_check (b : Nat) : checkB (awT b) = true := by
  unfold checkB
  rw [awT_nodes, awT_pre]
  rfl
theorem awT_deep (b : Nat) : deepL ((awT b).pre 1) = 3 := by rw [awT_pre]; rfl
theorem awT_wt (b : Nat) : wtL ((awT b).pre 1) = 7 := by rw [awT_pre]; rfl
/-- The world when it has been laid. -/
def awW (w : World) : World := (((w.alloc (.cells #[.string ⟨#[97]⟩] 9)).alloc (.cells #[.int .u32 1] 59)).alloc (.cells (flat [numC false (some ⟨w.heap.size + 1, 0, none⟩) 1 1 0, leafC 4 false ⟨#[120, 121]⟩]).toArray 31)).alloc (.cells (flat [arrC (some ⟨w.heap.size + 1 + 1, 0, none⟩) 2 2]).toArray 31)
theorem awW_rep (w : World) : Rep (awW w) (awT w.heap.size) := by
  have h0 := rdv_new w (sv [⟨#[97]⟩]) 9
  have h1 := rd_new (w.alloc (.cells #[.string ⟨#[97]⟩] 9)) 1
  have h2 := rdv_new ((w.alloc (.cells #[.string ⟨#[97]⟩] 9)).alloc (.cells #[.int .u32 1] 59)) (flat [numC false (some ⟨w.heap.size + 1, 0, none⟩) 1 1 0, leafC 4 false ⟨#[120, 121]⟩]) 31
  have h3 := rdv_new (((w.alloc (.cells #[.string ⟨#[97]⟩] 9)).alloc (.cells #[.int .u32 1] 59)).alloc (.cells (flat [numC false (some ⟨w.heap.size + 1, 0, none⟩) 1 1 0, leafC 4 false ⟨#[120, 121]⟩]).toArray 31)) (flat [arrC (some ⟨w.heap.size + 1 + 1, 0, none⟩) 2 2]) 31
  simp only [World.size_alloc] at h1 h2 h3
  have b3 := fun W (W' : World) o (e : W' = World.alloc W o) => (by rw [e]; exact (Below.refl _ W).alloc (Nat.le_refl _) o : Below W.heap.size W W')
  unfold awW awT
  refine objT_rep rfl (Nat.le_refl _) (by decide) (((h0.on (b3 _ _ _ rfl)).on (b3 _ _ _ rfl)).on (b3 _ _ _ rfl)) (by decide) rfl (Nat.le_refl _) (by decide) h3 ?_
  intro t ht
  simp at ht; subst ht
  refine arrT_rep rfl (Nat.le_refl _) (by decide) (h2.on (b3 _ _ _ rfl)) ?_
  intro t ht
  simp at ht
  rcases ht with rfl | rfl
  · exact numT_rep rfl (Nat.le_refl _) (by decide) (by intro x hx; simp at hx; subst hx; decide) ((h1.below (b3 _ _ _ rfl)).below (b3 _ _ _ rfl)) li0
  · exact leafT_rep _ _ _ _ (by decide) (by decide)
theorem awW_below (w : World) : Below w.heap.size w (awW w) := ((((Below.refl _ w).alloc (Nat.le_refl _) _).alloc (by simp) _).alloc (by simp; omega) _).alloc (by simp; omega) _

/-- And the variable that holds it. -/
def awB (w : World) : World := (awW w).alloc (.cells (awT w.heap.size).c.cells.toArray 31)
theorem awB_below (w : World) : Below w.heap.size w (awB w) := (awW_below w).trans (((Below.refl _ _).alloc (Nat.le_refl _) _).mono (awW_below w).size)
theorem awB_size (w : World) : (awB w).heap.size = w.heap.size + 5 := by simp [awB, awW]
theorem awB_box (w : World) : BoxT (awB w) (w.heap.size + 1 + 1 + 1 + 1) (awT w.heap.size).c := by
  unfold BoxT awB
  have := heap_alloc_new (awW w) (.cells (awT w.heap.size).c.cells.toArray 31)
  have hs : (awW w).heap.size = w.heap.size + 1 + 1 + 1 + 1 := by simp [awW]
  rw [hs] at this; exact this
theorem awB_rep (w : World) : Rep (awB w) (awT w.heap.size) := (awW_rep w).on ((Below.refl _ _).alloc (Nat.le_refl _) _)

end Go.Proofs.Ytndjdmgncjiggaa
/- Place: any number as one from 0 to n - 1. -/
namespace Go.Proofs.Ytndjdmgncjiggaa
open Go.RowKit
set_option linter.unusedVariables false
set_option linter.unusedSimpArgs false

end Go.Proofs.Ytndjdmgncjiggaa
