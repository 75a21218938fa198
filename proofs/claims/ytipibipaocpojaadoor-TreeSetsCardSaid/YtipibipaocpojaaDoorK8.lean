/- The fifth layer's awake; trees that are made at a place. -/
import Derived.Test.YtipibipaocpojaaDoorKv
namespace Go.Proofs.YtipibipaocpojaaDoor
open Go.RowKit Go.Shelf
set_option linter.unusedVariables false
set_option linter.unusedSimpArgs false

theorem lm0 : (0 : Nat) ≤ 1000000000000000 := Nat.zero_le _
theorem li0 : -9223372036854775808 ≤ (0 : Int) ∧ (0 : Int) ≤ 9223372036854775807 := by decide
theorem li3 : -9223372036854775808 ≤ (3 : Int) ∧ (3 : Int) ≤ 9223372036854775807 := by decide
theorem li6 : -9223372036854775808 ≤ (6 : Int) ∧ (6 : Int) ≤ 9223372036854775807 := by decide
theorem li7 : -9223372036854775808 ≤ (7 : Int) ∧ (7 : Int) ≤ 9223372036854775807 := by decide
/-- A value without others in it. -/
def leafC (k : Int) (b : Bool) (s : ByteArray) : Cel := ⟨k, b, false, none, 0, 0, 0, s, none, 0, 0, none, 0, 0⟩
def leafT (k : Int) (b : Bool) (s : ByteArray) : MT := .mk (leafC k b s) [] [] []
theorem leafT_rep (w : World) (k : Int) (b : Bool) (s : ByteArray) (hk : -9223372036854775808 ≤ k ∧ k ≤ 9223372036854775807) (hs : s.size ≤ maxLen) : Rep w (leafT k b s) :=
  Rep.mk ⟨rfl, Nat.le_refl _, Okl.nil, Rd.nil _ _, rfl, Nat.le_refl _, RdV.nil _ _, rfl, Nat.le_refl _, RdV.nil _ _, ⟨lm0, lm0, lm0⟩, hs, nofun, li0, hk⟩ nofun
/-- An array. -/
def arrC (va : Option Addr) (n cap : Nat) : Cel := ⟨6, false, false, none, 0, 0, 0, ⟨#[]⟩, none, 0, 0, va, n, cap⟩
def arrT (va : Option Addr) (n cap : Nat) (l : List MT) : MT := .mk (arrC va n cap) [] [] l
theorem arrT_rep {w : World} {va : Option Addr} {n cap : Nat} {l : List MT} (hl : l.length = n) (hc : n ≤ cap) (hm : n ≤ 1000000000000000) (hr : RdV w va (flat (l.map MT.c))) (hp : ∀ t ∈ l, Rep w t) : Rep w (arrT va n cap l) :=
  Rep.mk ⟨rfl, Nat.le_refl _, Okl.nil, Rd.nil _ _, rfl, Nat.le_refl _, RdV.nil _ _, hl, hc, hr, ⟨lm0, lm0, hm⟩, Nat.zero_le _, nofun, li0, li6⟩ hp
/-- An object. -/
def objC7 (ka : Option Addr) (kn kc : Nat) (va : Option Addr) (n cap : Nat) : Cel := ⟨7, false, false, none, 0, 0, 0, ⟨#[]⟩, ka, kn, kc, va, n, cap⟩
def objT (ka : Option Addr) (kn kc : Nat) (va : Option Addr) (n cap : Nat) (ks : List ByteArray) (l : List MT) : MT := .mk (objC7 ka kn kc va n cap) [] ks l
theorem objT_rep {w : World} {ka : Option Addr} {kn kc : Nat} {va : Option Addr} {n cap : Nat} {ks : List ByteArray} {l : List MT} (hkl : ks.length = kn) (hkc : kn ≤ kc) (hkm : kn ≤ 1000000000000000) (hkr : RdV w ka (sv ks)) (hks : ∀ s ∈ ks, s.size ≤ maxLen) (hl : l.length = n) (hc : n ≤ cap) (hm : n ≤ 1000000000000000) (hr : RdV w va (flat (l.map MT.c))) (hp : ∀ t ∈ l, Rep w t) : Rep w (objT ka kn kc va n cap ks l) :=
  Rep.mk ⟨rfl, Nat.le_refl _, Okl.nil, Rd.nil _ _, hkl, hkc, hkr, hl, hc, hr, ⟨lm0, hkm, hm⟩, Nat.zero_le _, hks, li0, li7⟩ hp
/-- A number. -/
def numC (neg : Bool) (ma : Option Addr) (mn mc : Nat) (e : Int) : Cel := ⟨3, false, neg, ma, mn, mc, e, ⟨#[]⟩, none, 0, 0, none, 0, 0⟩
def numT (neg : Bool) (ma : Option Addr) (mn mc : Nat) (e : Int) (m : List Nat) : MT := .mk (numC neg ma mn mc e) m [] []
theorem numT_rep {w : World} {neg : Bool} {ma : Option Addr} {mn mc : Nat} {e : Int} {m : List Nat} (hl : m.length = mn) (hc : mn ≤ mc) (hm : mn ≤ 1000000000000000) (ho : Okl m) (hr : Rd w ma m) (he : -9223372036854775808 ≤ e ∧ e ≤ 9223372036854775807) : Rep w (numT neg ma mn mc e m) :=
  Rep.mk ⟨hl, hc, ho, hr, rfl, Nat.le_refl _, RdV.nil _ _, rfl, Nat.le_refl _, RdV.nil _ _, ⟨hm, lm0, lm0⟩, Nat.zero_le _, nofun, he, li3⟩ nofun
/-- A block of values, just laid. -/
theorem rdv_new (w : World) (vs : List Value) (e : TypeId) : RdV (w.alloc (.cells vs.toArray e)) (some ⟨w.heap.size, 0, none⟩) vs :=
  BlkV.all (e := e) (by unfold BlkV; exact heap_alloc_new w _)
theorem rd_new (w : World) (x : Nat) : Rd (w.alloc (.cells #[.int .u32 (x : Int)] 45)) (some ⟨w.heap.size, 0, none⟩) [x] := by
  have h : Blk (w.alloc (.cells #[.int .u32 (x : Int)] 45)) w.heap.size [x] [] := by unfold Blk; exact heap_alloc_new w _
  exact h.rd_all

/-- The document's example. -/
def awT (b : Nat) : MT := objT (some ⟨b, 0, none⟩) 1 1 (some ⟨b + 1 + 1 + 1, 0, none⟩) 1 1 [⟨#[97]⟩] [arrT (some ⟨b + 1 + 1, 0, none⟩) 2 2 [numT false (some ⟨b + 1, 0, none⟩) 1 1 0 [1], leafT 4 false ⟨#[120, 121]⟩]]
theorem awT_pre (b : Nat) : (awT b).pre 1 = [(1, awT b), (2, arrT (some ⟨b + 1 + 1, 0, none⟩) 2 2 [numT false (some ⟨b + 1, 0, none⟩) 1 1 0 [1], leafT 4 false ⟨#[120, 121]⟩]), (3, numT false (some ⟨b + 1, 0, none⟩) 1 1 0 [1]), (3, leafT 4 false ⟨#[120, 121]⟩)] := by
  simp [MT.pre_eq, MT.preL_cons, MT.preL_nil, awT, objT, arrT, numT, leafT, MT.v]
theorem awT_nodes (b : Nat) : (awT b).nodes = 4 := by rw [← (awT b).pre_len 1, awT_pre]; rfl
theorem awT_check (b : Nat) : checkB (awT b) = true := by
  unfold checkB
  rw [awT_nodes, awT_pre]
  rfl
theorem awT_deep (b : Nat) : deepL ((awT b).pre 1) = 3 := by rw [awT_pre]; rfl
theorem awT_wt (b : Nat) : wtL ((awT b).pre 1) = 7 := by rw [awT_pre]; rfl
/-- The world when it has been laid. -/
def awW (w : World) : World := (((w.alloc (.cells #[.string ⟨#[97]⟩] 9)).alloc (.cells #[.int .u32 1] 45)).alloc (.cells (flat [numC false (some ⟨w.heap.size + 1, 0, none⟩) 1 1 0, leafC 4 false ⟨#[120, 121]⟩]).toArray 28)).alloc (.cells (flat [arrC (some ⟨w.heap.size + 1 + 1, 0, none⟩) 2 2]).toArray 28)
theorem awW_rep (w : World) : Rep (awW w) (awT w.heap.size) := by
  have h0 := rdv_new w (sv [⟨#[97]⟩]) 9
  have h1 := rd_new (w.alloc (.cells #[.string ⟨#[97]⟩] 9)) 1
  have h2 := rdv_new ((w.alloc (.cells #[.string ⟨#[97]⟩] 9)).alloc (.cells #[.int .u32 1] 45)) (flat [numC false (some ⟨w.heap.size + 1, 0, none⟩) 1 1 0, leafC 4 false ⟨#[120, 121]⟩]) 28
  have h3 := rdv_new (((w.alloc (.cells #[.string ⟨#[97]⟩] 9)).alloc (.cells #[.int .u32 1] 45)).alloc (.cells (flat [numC false (some ⟨w.heap.size + 1, 0, none⟩) 1 1 0, leafC 4 false ⟨#[120, 121]⟩]).toArray 28)) (flat [arrC (some ⟨w.heap.size + 1 + 1, 0, none⟩) 2 2]) 28
  simp only [World.size_alloc] at h1 h2 h3
  have b3 := fun W (W' : World) o (e : W' = World.alloc W o) => (by rw [e]; exact (Below.refl _ W).alloc (Nat.le_refl _) o : Below W.heap.size W W')
  unfold awW awT
  refine objT_rep rfl (Nat.le_refl _) (by decide) (((h0.on (b3 _ _ _ rfl)).on (b3 _ _ _ rfl)).on (b3 _ _ _ rfl)) (by decide) rfl (Nat.le_refl _) (by decide) h3 ?_
  intro t ht
  simp at ht; subst ht
  refine arrT_rep rfl (Nat.le_refl _) (by decide) (h2.on (b3 _ _ _ rfl)) ?_
  intro t ht
  simp at ht
  rcases ht with rfl | rfl
  · exact numT_rep rfl (Nat.le_refl _) (by decide) (by intro x hx; simp at hx; subst hx; decide) ((h1.below (b3 _ _ _ rfl)).below (b3 _ _ _ rfl)) li0
  · exact leafT_rep _ _ _ _ (by decide) (by decide)
theorem awW_below (w : World) : Below w.heap.size w (awW w) := ((((Below.refl _ w).alloc (Nat.le_refl _) _).alloc (by simp) _).alloc (by simp; omega) _).alloc (by simp; omega) _

/-- And the variable that holds it. -/
def awB (w : World) : World := (awW w).alloc (.cells (awT w.heap.size).c.cells.toArray 28)
theorem awB_below (w : World) : Below w.heap.size w (awB w) := (awW_below w).trans (((Below.refl _ _).alloc (Nat.le_refl _) _).mono (awW_below w).size)
theorem awB_size (w : World) : (awB w).heap.size = w.heap.size + 5 := by simp [awB, awW]
theorem awB_box (w : World) : BoxT (awB w) (w.heap.size + 1 + 1 + 1 + 1) (awT w.heap.size).c := by
  unfold BoxT awB
  have := heap_alloc_new (awW w) (.cells (awT w.heap.size).c.cells.toArray 28)
  have hs : (awW w).heap.size = w.heap.size + 1 + 1 + 1 + 1 := by simp [awW]
  rw [hs] at this; exact this
theorem awB_rep (w : World) : Rep (awB w) (awT w.heap.size) := (awW_rep w).on ((Below.refl _ _).alloc (Nat.le_refl _) _)

set_option maxHeartbeats 4000000 in
set_option maxRecDepth 100000 in
theorem awake5_any (w : World) (hT : UT w) : Calls Tryd.prog 9 #[] w (BoolBelow true w) := by
  have KR := Lib.hid (fun W (h : Below (awB w).heap.size (awB w) W) => (awB_rep w).on h)
  have KU := Lib.hid (fun W (h : Below (awB w).heap.size (awB w) W) => hT.below ((awB_below w).trans (h.mono (awB_below w).size)))
  have KX := Lib.hid (fun W (h : Below (awB w).heap.size (awB w) W) => ((awB_box w).on (h.block _ (by rw [awB_size]; omega))).cells)
  have KB := Lib.hid (fun W (h : Below (awB w).heap.size (awB w) W) => (awB_below w).trans (h.mono (awB_below w).size))
  have KF := Lib.hid (Below.refl (awB w).heap.size (awB w))
  have K1 := Lib.hid (fun W (h : Rep W (awT w.heap.size)) => weight_any (awT w.heap.size) W h (by rw [awT_nodes]; decide) (by rw [awT_wt]; decide))
  have K2 := Lib.hid (fun W (h : Rep W (awT w.heap.size)) hU => checkT_any (awT w.heap.size) W h hU)
  have K3 := Lib.hid (fun W (h : Rep W (awT w.heap.size)) => nodes_any (awT w.heap.size) W h (by rw [awT_nodes]; decide))
  have K4 := Lib.hid (fun W (h : Rep W (awT w.heap.size)) => depth_any (awT w.heap.size) W h (by rw [awT_nodes]; decide))
  rw [awT_wt] at K1; rw [awT_check] at K2; rw [awT_nodes] at K3; rw [awT_deep] at K4
  clear hT
  unfold awT objT at K1 K2 K3 K4 KX
  simp only [MT.c, objC7, Cel.val] at K1 K2 K3 K4 KX
  generalize hW : awB w = WB at *
  have hW2 := hW
  unfold awB awW awT objT at hW2
  simp only [MT.c, objC7, flat, List.flatMap_cons, List.flatMap_nil, Cel.cells, numC, leafC, arrC, List.append_nil, List.cons_append, List.nil_append] at hW2
  have HW := Lib.hid hW2
  clear hW hW2
  go_enter Tryd.func9, Tryd.ntmps9
  go_wp2_with fail
  rw [HW.out]
  refine (K1.out _ (KR.out _ KF.out)).mono ?_
  rintro r w1 ⟨rfl, h1⟩
  have B1 := Lib.hid (below_on KF.out h1); clear h1
  obtain ⟨g0, g1, g2, g3, g4, g5, g6, g7⟩ := KX.out _ B1.out
  go_wp2_with fail
  refine (K2.out _ (KR.out _ B1.out) (KU.out _ B1.out)).mono ?_
  rintro r w2 ⟨rfl, h1⟩
  have B2 := Lib.hid (below_on B1.out h1); clear h1 g0 g1 g2 g3 g4 g5 g6 g7
  obtain ⟨g0, g1, g2, g3, g4, g5, g6, g7⟩ := KX.out _ B2.out
  go_wp2_with fail
  refine (K3.out _ (KR.out _ B2.out)).mono ?_
  rintro r w3 ⟨rfl, h1⟩
  have B3 := Lib.hid (below_on B2.out h1); clear h1 g0 g1 g2 g3 g4 g5 g6 g7
  obtain ⟨g0, g1, g2, g3, g4, g5, g6, g7⟩ := KX.out _ B3.out
  go_wp2_with fail
  refine (K4.out _ (KR.out _ B3.out)).mono ?_
  rintro r w4 ⟨rfl, h1⟩
  have B4 := Lib.hid (below_on B3.out h1); clear h1 g0 g1 g2 g3 g4 g5 g6 g7
  go_wp2
  go_ret
  exact BoolBelow.mk rfl (KB.out _ B4.out)
end Go.Proofs.YtipibipaocpojaaDoor
