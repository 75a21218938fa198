/- The walk of jstr's Unquote: what is thrown is caught. -/
import Derived.Test.YtnoclbeamcmhhaaDoorJc
import Derived.Defers
import Derived.Recover
import Derived.RegionTactic
namespace Go.Proofs.YtnoclbeamcmhhaaDoor
open Go.RowKit Go.Shelf Go.Lib
set_option linter.unusedVariables false
set_option linter.unusedSimpArgs false

theorem assert_errnoJ (x : Int) (W : World) : (Instr.typeAssert (.iface 48 (.int .i64 x)) 20 48 false).run Tryd.prog W = .ok (.int .i64 x) W := by kernel_rfl
/-- The closure that catches: what was thrown becomes the answer. -/
theorem catch_thrownJ (g h i : Nat) (v0 v1 v2 : Value) (x : Int) (older : List PanicEntry) (w : World) (n1 : g ≠ h) (n2 : g ≠ i) (n3 : h ≠ i)
    (c0 : w.cell? ⟨g, 0, none⟩ = some v0) (c1 : w.cell? ⟨h, 0, none⟩ = some v1) (c2 : w.cell? ⟨i, 0, none⟩ = some v2)
    (f0 : w.frozen? ⟨g, 0, none⟩ = false) (f1 : w.frozen? ⟨h, 0, none⟩ = false) (f2 : w.frozen? ⟨i, 0, none⟩ = false) :
    CallsD Tryd.prog 45 #[.pointer (some ⟨g, 0, none⟩), .pointer (some ⟨h, 0, none⟩), .pointer (some ⟨i, 0, none⟩)] (.panicking ({ v := .iface 48 (.int .i64 x), recovered := false } :: older)) w fun e u' w' =>
      e = .returned (.tuple #[]) ∧ u' = .panicking ({ v := .iface 48 (.int .i64 x), recovered := true } :: older) ∧
        w' = (((w.setCell ⟨g, 0, none⟩ (.string ⟨#[]⟩)).setCell ⟨h, 0, none⟩ (.int .i64 0)).setCell ⟨i, 0, none⟩ (.int .i64 x)).drew := by
  refine callsD_of_wpS Tryd.func45 rfl fun c₀ cs hu => ?_
  apply wpS_seq
  apply wpS_region
  simp [wpOpsS, go_sem, recoverD, hu, Tryd.ntmps45, Exit.thenS]
  apply wpS_seq
  apply wpS_region
  simp [wpOpsS, go_sem, Exit.thenS]
  refine wpS_cond (t := true) (by simp [Act.eval, Array.replicate]) ?_
  simp only [if_true]
  refine wpS_of_wp ?_
  change Code.wp _ _ _ { tmps := #[.pointer (some ⟨g, 0, none⟩), .pointer (some ⟨h, 0, none⟩), .pointer (some ⟨i, 0, none⟩), .iface 48 (.int .i64 x), .iface 48 (.int .i64 x), .iface 48 (.int .i64 x), .bool true, undef, undef], defers := [] } w
  have hne1 : ¬ h = g := fun hh => n1 hh.symm
  have hne2 : ¬ i = g := fun hh => n2 hh.symm
  have hne3 : ¬ i = h := fun hh => n3 hh.symm
  have hta := assert_errnoJ x
  go_region
  exact ⟨rfl, _, rfl, .tuple #[], by simp [results, Tryd.results45, go_sem], rfl, rfl, rfl⟩

/-- The closure, where nothing was thrown. -/
theorem catch_idleJ (p q r : Addr) (w : World) :
    CallsD Tryd.prog 45 #[.pointer (some p), .pointer (some q), .pointer (some r)] .returning w fun e u' w' => e = .returned (.tuple #[]) ∧ u' = .returning ∧ w' = w := by
  refine callsD_of_wpS Tryd.func45 rfl fun c₀ cs hu => ?_
  apply wpS_seq
  apply wpS_region
  simp [wpOpsS, go_sem, recoverD, hu, Tryd.ntmps45, Exit.thenS]
  apply wpS_seq
  apply wpS_region
  simp [wpOpsS, go_sem, Exit.thenS]
  refine wpS_cond (t := false) (by simp [Act.eval, Array.replicate]) ?_
  simp only [Bool.false_eq_true, if_false]
  refine wpS_of_wp (wp_skip ?_)
  cases c₀
  simp_all [bodyPostS, results, Tryd.results45]

theorem four_allocs (w : World) (o0 o1 o2 o3 : Obj) : let W := (((w.alloc o0).alloc o1).alloc o2).alloc o3
    W.heap[w.heap.size]? = some o0 ∧ W.heap[w.heap.size + 1]? = some o1 ∧ W.heap[w.heap.size + 1 + 1]? = some o2 ∧ W.heap[w.heap.size + 1 + 1 + 1]? = some o3 := by
  intro W
  show ((((w.heap.push o0).push o1).push o2).push o3)[w.heap.size]? = _ ∧ ((((w.heap.push o0).push o1).push o2).push o3)[w.heap.size + 1]? = _ ∧ ((((w.heap.push o0).push o1).push o2).push o3)[w.heap.size + 1 + 1]? = _ ∧ ((((w.heap.push o0).push o1).push o2).push o3)[w.heap.size + 1 + 1 + 1]? = _
  simp only [Array.getElem?_push, Array.size_push]
  refine ⟨?_, ?_, ?_, ?_⟩
  · rw [if_neg (by omega), if_neg (by omega), if_neg (by omega), if_pos trivial]
  · rw [if_neg (by omega), if_neg (by omega), if_pos trivial]
  · rw [if_neg (by omega), if_pos trivial]
  · rw [if_pos trivial]
theorem cell_heap {w : World} {b i : Nat} {c : Array Value} {t : TypeId} {v : Value} (h : w.heap[b]? = some (.cells c t)) (hv : c[i]? = some v) : w.cell? ⟨b, i, none⟩ = some v := by
  simp [World.cell?, h, hv]
theorem frozen_heap {w : World} {b i : Nat} {c : Array Value} {t : TypeId} (h : w.heap[b]? = some (.cells c t)) : w.frozen? ⟨b, i, none⟩ = false := by
  simp [World.frozen?, h]
def UqPost (r : Option (List UInt8 × Nat)) (w : World) (e : Ending) (w' : World) : Prop :=
  match r with
  | some p => e = .returned (.tuple #[.string ⟨p.1.toArray⟩, .int .i64 ((p.2 : Nat) : Int), .int .i64 0]) ∧ Below w.heap.size w w'
  | none => e = .returned (.tuple #[.string ⟨#[]⟩, .int .i64 0, .int .i64 2]) ∧ Below w.heap.size w w'

set_option maxHeartbeats 4000000 in
theorem unquote_any (s : ByteArray) (k : Int) (w : World) (hs : s.size ≤ 1000000) (hk : -9223372036854775808 ≤ k ∧ k ≤ 9223372036854775807) (hT : UT w) :
    Calls Tryd.prog 24 #[.string s, .int .i64 k] w (UqPost (unqAt s k) w) := by
  have hmf : ∀ (fn : Fn) (first cap : Array Value) (w : World), (Instr.makeFunc fn first cap).run Tryd.prog w = .ok (.func fn first cap) w := fun _ _ _ _ => rfl
  generalize hW : (((w.alloc (.cells #[.string ⟨#[]⟩] 9)).alloc (.cells #[.int .i64 0] 3)).alloc (.cells #[.int .i64 0] 48)).alloc (.cells #[.string s, .int .i64 k] 77) = W
  have hb0 : Below w.heap.size w W := by
    rw [← hW]; exact ((((Below.refl _ _).alloc (Nat.le_refl _) _).alloc (by simp) _).alloc (by simp; omega) _).alloc (by simp; omega) _
  have hsz : W.heap.size = w.heap.size + 4 := by rw [← hW]; simp
  obtain ⟨q0, q1, q2, q3⟩ := four_allocs w (.cells #[.string ⟨#[]⟩] 9) (.cells #[.int .i64 0] 3) (.cells #[.int .i64 0] 48) (.cells #[.string s, .int .i64 k] 77)
  rw [hW] at q0 q1 q2 q3
  have hr : Rdr (w.heap.size + 1 + 1 + 1) s k W := ⟨cell_heap q3 rfl, cell_heap q3 rfl, frozen_heap q3⟩
  have Q0 := Lib.hid q0; have Q1 := Lib.hid q1; have Q2 := Lib.hid q2
  clear q0 q1 q2 q3
  have KQ := Lib.hid (quoted_any (w.heap.size + 1 + 1 + 1) s k W hs hr hk (fun W' j h => hT.below (hb0.trans (h.below (by omega) (by omega)))))
  have hW2 := Lib.hid hW
  clear hW hT
  go_enter_defers Tryd.func24, Tryd.ntmps24
  go_wp2_with fail
  rw [hW2.out]
  cases hu : unqAt s k with
  | none =>
    rw [hu] at KQ
    clear hu
    unfold QdPost at KQ
    refine KQ.out.mono ?_
    rintro x w1 ⟨rfl, j, h1⟩
    have p0 := h1.block (i := w.heap.size) (by omega) (by omega)
    have p1 := h1.block (i := w.heap.size + 1) (by omega) (by omega)
    have p2 := h1.block (i := w.heap.size + 1 + 1) (by omega) (by omega)
    rw [Q0.out] at p0; rw [Q1.out] at p1; rw [Q2.out] at p2
    have hb1 := Lib.hid (hb0.trans (h1.below (B := w.heap.size) (by omega) (by omega)))
    have c0 : w1.cell? ⟨w.heap.size, 0, none⟩ = some (.string ⟨#[]⟩) := cell_heap p0 rfl
    have c1 : w1.cell? ⟨w.heap.size + 1, 0, none⟩ = some (.int .i64 0) := cell_heap p1 rfl
    have c2 : w1.cell? ⟨w.heap.size + 1 + 1, 0, none⟩ = some (.int .i64 0) := cell_heap p2 rfl
    have f0 := frozen_heap (i := 0) p0
    have f1 := frozen_heap (i := 0) p1
    have f2 := frozen_heap (i := 0) p2
    clear h1 p0 p1 p2 KQ
    go_wp2
    refine leaves_cons (f := 45) (args := #[.pointer (some ⟨w.heap.size, 0, none⟩), .pointer (some ⟨w.heap.size + 1, 0, none⟩), .pointer (some ⟨w.heap.size + 1 + 1, 0, none⟩)]) (by simp) (by simp [go_sem]) ?_
    refine (catch_thrownJ w.heap.size (w.heap.size + 1) (w.heap.size + 1 + 1) _ _ _ 2 [] _ (by omega) (by omega) (by omega) c0 c1 c2 f0 f1 f2).mono ?_
    rintro e u' w'' ⟨rfl, rfl, rfl⟩
    simp [Leaves, settle, results, Tryd.results24, go_sem, c0, c1, c2]
    exact ⟨rfl, (((hb1.out.setCell (by simp) _).setCell (by simp) _).setCell (by simp; omega) _).drew⟩
  | some p =>
    obtain ⟨l, m⟩ := p
    rw [hu] at KQ
    have HU := Lib.hid hu
    clear hu
    unfold QdPost at KQ
    refine KQ.out.mono ?_
    rintro x w1 ⟨rfl, h1⟩
    have p0 := h1.block (i := w.heap.size) (by omega) (by omega)
    have p1 := h1.block (i := w.heap.size + 1) (by omega) (by omega)
    have p2 := h1.block (i := w.heap.size + 1 + 1) (by omega) (by omega)
    rw [Q0.out] at p0; rw [Q1.out] at p1; rw [Q2.out] at p2
    have hb1 := Lib.hid (hb0.trans (h1.below (B := w.heap.size) (by omega) (by omega)))
    have hr1 := h1.rdr hr
    have c0 : w1.cell? ⟨w.heap.size, 0, none⟩ = some (.string ⟨#[]⟩) := cell_heap p0 rfl
    have c1 : w1.cell? ⟨w.heap.size + 1, 0, none⟩ = some (.int .i64 0) := cell_heap p1 rfl
    have c2 : w1.cell? ⟨w.heap.size + 1 + 1, 0, none⟩ = some (.int .i64 0) := cell_heap p2 rfl
    have c3 := hr1.c1
    have f0 := frozen_heap (i := 0) p0
    have f1 := frozen_heap (i := 0) p1
    have f2 := frozen_heap (i := 0) p2
    clear h1 p0 p1 p2 KQ hr1 hr
    go_wp2
    go_region
    go_wp2
    refine leaves_cons (f := 45) (args := #[.pointer (some ⟨w.heap.size, 0, none⟩), .pointer (some ⟨w.heap.size + 1, 0, none⟩), .pointer (some ⟨w.heap.size + 1 + 1, 0, none⟩)]) (by simp) (by simp [go_sem]) ?_
    refine (catch_idleJ _ _ _ _).mono ?_
    rintro e u' w'' ⟨rfl, rfl, rfl⟩
    simp [Leaves, settle, results, Tryd.results24, go_sem, c0, c1, c2]
    first | rw [HU.out] | skip
    exact ⟨rfl, ((((hb1.out.setCell (by simp) _).setCell (by simp) _).setCell (by simp) _).setCell (by simp; omega) _).drew⟩
end Go.Proofs.YtnoclbeamcmhhaaDoor
