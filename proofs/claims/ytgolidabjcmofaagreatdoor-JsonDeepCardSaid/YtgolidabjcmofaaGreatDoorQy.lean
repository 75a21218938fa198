/- Texts of the claim. -/
import Derived.Test.YtgolidabjcmofaaGreatDoorQx
namespace Go.Proofs.YtgolidabjcmofaaGreatDoor
open Go.RowKit Go.Shelf Go.Lib
set_option linter.unusedVariables false
set_option linter.unusedSimpArgs false
def DecPost (r : MT ⊕ Int) (w : World) (e : Ending) (w' : World) : Prop :=
  match r with
  | .inl t => ∃ t' : MT, e = .returned (.tuple #[t'.c.val, .int .i64 0]) ∧ t'.bare = t ∧ Rep w' t' ∧ Below w.heap.size w w'
  | .inr x => e = .returned (.tuple #[.agg #[.int .i64 0, .bool false, .bool false, .slice none 0 0, .int .i64 0, .string ⟨#[]⟩, .slice none 0 0, .slice none 0 0], .int .i64 x]) ∧ Below w.heap.size w w'
theorem DecPost.no {r : MT ⊕ Int} {w w' : World} {e : Ending} {x : Int} (h : r = .inr x) (he : e = .returned (.tuple #[.agg #[.int .i64 0, .bool false, .bool false, .slice none 0 0, .int .i64 0, .string ⟨#[]⟩, .slice none 0 0, .slice none 0 0], .int .i64 x])) (hb : Below w.heap.size w w') : DecPost r w e w' := by
  subst h; exact ⟨he, hb⟩
set_option maxHeartbeats 8000000 in
theorem decode_long (l : List UInt8) (w : World) (hl : l.length ≤ 1000000) (hbig : 32768 < l.length) :
    Calls Tryz.prog 11 #[.string ⟨l.toArray⟩] w (DecPost (.inr 4) w) := by
  have hmf : ∀ (fn : Fn) (first cap : Array Value) (w : World), (Instr.makeFunc fn first cap).run Tryz.prog w = .ok (.func fn first cap) w := fun _ _ _ _ => rfl
  generalize hW : (w.alloc (.cells #[.int .i64 0, .bool false, .bool false, .slice none 0 0, .int .i64 0, .string ⟨#[]⟩, .slice none 0 0, .slice none 0 0] 28)).alloc (.cells #[.int .i64 0] 31) = W
  have hb0 : Below w.heap.size w W := by
    rw [← hW]; exact ((Below.refl _ _).alloc (Nat.le_refl _) _).alloc (by simp) _
  have q0 : W.heap[w.heap.size]? = some (.cells #[.int .i64 0, .bool false, .bool false, .slice none 0 0, .int .i64 0, .string ⟨#[]⟩, .slice none 0 0, .slice none 0 0] 28) := by rw [← hW]; exact (Below.heap_alloc _ _ _ (by simp)).trans (heap_alloc_new w _)
  have q1 : W.heap[w.heap.size + 1]? = some (.cells #[.int .i64 0] 31) := by
    rw [← hW]; have := heap_alloc_new (w.alloc (.cells #[.int .i64 0, .bool false, .bool false, .slice none 0 0, .int .i64 0, .string ⟨#[]⟩, .slice none 0 0, .slice none 0 0] 28)) (.cells #[.int .i64 0] 31); simpa using this
  have a0 : World.cell? W ⟨w.heap.size, 0, none⟩ = some (.int .i64 0) := (box_cellsJ q0 0 _ rfl).1
  have af0 := (box_cellsJ q0 0 _ rfl).2
  have a1 : World.cell? W ⟨w.heap.size, 1, none⟩ = some (.bool false) := (box_cellsJ q0 1 _ rfl).1
  have af1 := (box_cellsJ q0 1 _ rfl).2
  have a2 : World.cell? W ⟨w.heap.size, 2, none⟩ = some (.bool false) := (box_cellsJ q0 2 _ rfl).1
  have af2 := (box_cellsJ q0 2 _ rfl).2
  have a3 : World.cell? W ⟨w.heap.size, 3, none⟩ = some (.slice none 0 0) := (box_cellsJ q0 3 _ rfl).1
  have af3 := (box_cellsJ q0 3 _ rfl).2
  have a4 : World.cell? W ⟨w.heap.size, 4, none⟩ = some (.int .i64 0) := (box_cellsJ q0 4 _ rfl).1
  have af4 := (box_cellsJ q0 4 _ rfl).2
  have a5 : World.cell? W ⟨w.heap.size, 5, none⟩ = some (.string ⟨#[]⟩) := (box_cellsJ q0 5 _ rfl).1
  have af5 := (box_cellsJ q0 5 _ rfl).2
  have a6 : World.cell? W ⟨w.heap.size, 6, none⟩ = some (.slice none 0 0) := (box_cellsJ q0 6 _ rfl).1
  have af6 := (box_cellsJ q0 6 _ rfl).2
  have a7 : World.cell? W ⟨w.heap.size, 7, none⟩ = some (.slice none 0 0) := (box_cellsJ q0 7 _ rfl).1
  have af7 := (box_cellsJ q0 7 _ rfl).2
  have b0 : W.cell? ⟨w.heap.size + 1, 0, none⟩ = some (.int .i64 0) := (box_cellsJ q1 0 _ rfl).1
  have bf0 := (box_cellsJ q1 0 _ rfl).2
  have hsz := str_size l
  have hgt : decide ((32768 : Int) < (l.length : Int)) = true := decide_eq_true (by omega)
  have HB := Lib.hid hb0
  have hW2 := Lib.hid hW
  clear hW hb0 q0 q1
  generalize (⟨l.toArray⟩ : ByteArray) = s at *
  go_enter_defers Tryz.func11, Tryz.ntmps11
  go_wp2_with fail
  rw [hW2.out]
  go_wp2
  refine leaves_cons (f := 24) (args := #[.pointer (some ⟨w.heap.size, 0, none⟩), .pointer (some ⟨w.heap.size + 1, 0, none⟩)]) (by simp) (by simp [go_sem]) ?_
  refine (catch_thrownD w.heap.size (w.heap.size + 1) _ _ _ _ _ _ _ _ _ 4 [] _ (by omega) a0 af0 a1 af1 a2 af2 a3 af3 a4 af4 a5 af5 a6 af6 a7 af7 b0 bf0).mono ?_
  rintro e u' w'' ⟨rfl, rfl, rfl⟩
  simp [Leaves, settle, results, Tryz.results11, go_sem, a0, a1, a2, a3, a4, a5, a6, a7, b0]
  exact DecPost.no rfl rfl ((((((((((HB.out.setCell (by simp) _).setCell (by simp) _).setCell (by simp) _).setCell (by simp) _).setCell (by simp) _).setCell (by simp) _).setCell (by simp) _).setCell (by simp) _).setCell (by simp) _).drew)
end Go.Proofs.YtgolidabjcmofaaGreatDoor
namespace Go.Proofs.YtgolidabjcmofaaGreatDoor
open Go.RowKit Go.Shelf Go.Lib
set_option linter.unusedVariables false
set_option linter.unusedSimpArgs false
theorem catch_idleD (p q : Addr) (w : World) :
    CallsD Tryz.prog 24 #[.pointer (some p), .pointer (some q)] .returning w fun e u' w' => e = .returned (.tuple #[]) ∧ u' = .returning ∧ w' = w := by
  refine callsD_of_wpS Tryz.func24 rfl fun c₀ cs hu => ?_
  apply wpS_seq
  apply wpS_region
  simp [wpOpsS, go_sem, recoverD, hu, Tryz.ntmps24, Exit.thenS]
  apply wpS_seq
  apply wpS_region
  simp [wpOpsS, go_sem, Exit.thenS]
  refine wpS_cond (t := false) (by simp [Act.eval, Array.replicate]) ?_
  simp only [Bool.false_eq_true, if_false]
  refine wpS_of_wp (wp_skip ?_)
  cases c₀
  simp_all [bodyPostS, results, Tryz.results24]
def finL (R : PRJ) : MT ⊕ Int := match R with
  | .inr x => .inr x
  | .inl r => if skipL r.2.1 = [] then .inl r.1 else .inr 2
set_option maxHeartbeats 8000000 in
theorem decode_short (l : List UInt8) (w : World) (hl : l.length ≤ 32768) (R : PRJ)
    (hV : ∀ W, RdJ (w.heap.size + 1 + 1) l 1 1 W → Below w.heap.size w W → Calls Tryz.prog 25 #[.pointer (some ⟨(w.heap.size + 1 + 1), 0, none⟩)] W (ValJ (w.heap.size + 1 + 1) 1 R W)) :
    Calls Tryz.prog 11 #[.string ⟨l.toArray⟩] w (DecPost (finL R) w) := by
  have hmf : ∀ (fn : Fn) (first cap : Array Value) (w : World), (Instr.makeFunc fn first cap).run Tryz.prog w = .ok (.func fn first cap) w := fun _ _ _ _ => rfl
  generalize hW : ((w.alloc (.cells #[.int .i64 0, .bool false, .bool false, .slice none 0 0, .int .i64 0, .string ⟨#[]⟩, .slice none 0 0, .slice none 0 0] 28)).alloc (.cells #[.int .i64 0] 31)).alloc (.cells #[.string ⟨l.toArray⟩, .int .i64 1, .int .i64 1] 51) = W
  have hb0 : Below w.heap.size w W := by
    rw [← hW]; exact (((Below.refl _ _).alloc (Nat.le_refl _) _).alloc (by simp) _).alloc (by simp; omega) _
  have hsW : W.heap.size = w.heap.size + 3 := by rw [← hW]; simp
  have q0 : W.heap[w.heap.size]? = some (.cells #[.int .i64 0, .bool false, .bool false, .slice none 0 0, .int .i64 0, .string ⟨#[]⟩, .slice none 0 0, .slice none 0 0] 28) := by
    rw [← hW]; exact ((Below.heap_alloc _ _ _ (by simp; omega)).trans (Below.heap_alloc _ _ _ (by simp))).trans (heap_alloc_new w _)
  have q1 : W.heap[w.heap.size + 1]? = some (.cells #[.int .i64 0] 31) := by
    rw [← hW]
    refine (Below.heap_alloc _ _ _ (by simp)).trans ?_
    have := heap_alloc_new (w.alloc (.cells #[.int .i64 0, .bool false, .bool false, .slice none 0 0, .int .i64 0, .string ⟨#[]⟩, .slice none 0 0, .slice none 0 0] 28)) (.cells #[.int .i64 0] 31); simpa using this
  have q2 : RdJ (w.heap.size + 1 + 1) l 1 1 W := by
    rw [← hW]
    have := heap_alloc_new ((w.alloc (.cells #[.int .i64 0, .bool false, .bool false, .slice none 0 0, .int .i64 0, .string ⟨#[]⟩, .slice none 0 0, .slice none 0 0] 28)).alloc (.cells #[.int .i64 0] 31)) (.cells #[.string ⟨l.toArray⟩, .int .i64 1, .int .i64 1] 51)
    unfold RdJ
    simpa using this
  have KV := Lib.hid (hV W q2 hb0)
  have hsz := str_size l
  have hgt : decide ((32768 : Int) < (l.length : Int)) = false := decide_eq_false (by omega)
  have HB := Lib.hid hb0
  have Q0 := Lib.hid q0; have Q1 := Lib.hid q1
  have hW2 := Lib.hid hW
  clear hW hb0 q0 q1 q2 hV
  generalize (⟨l.toArray⟩ : ByteArray) = sl at *
  go_enter_defers Tryz.func11, Tryz.ntmps11
  go_wp2_with fail
  rw [hW2.out]
  refine KV.out.mono ?_
  intro r w1 hp
  unfold ValJ at hp
  cases R with
  | inr y =>
    obtain ⟨rfl, la, da, na, h2⟩ := hp
    have p0 := (h2.oth.block w.heap.size (by omega) (by omega)).trans Q0.out
    have p1 := (h2.oth.block (w.heap.size + 1) (by omega) (by omega)).trans Q1.out
    have HB1 : Hid (Below w.heap.size w w1) := Lib.hid (HB.out.trans (h2.oth.below (by omega) (by omega)))
    have a0 : World.cell? w1 ⟨w.heap.size, 0, none⟩ = some (.int .i64 0) := (box_cellsJ p0 0 _ rfl).1
    have af0 := (box_cellsJ p0 0 _ rfl).2
    have a1 : World.cell? w1 ⟨w.heap.size, 1, none⟩ = some (.bool false) := (box_cellsJ p0 1 _ rfl).1
    have af1 := (box_cellsJ p0 1 _ rfl).2
    have a2 : World.cell? w1 ⟨w.heap.size, 2, none⟩ = some (.bool false) := (box_cellsJ p0 2 _ rfl).1
    have af2 := (box_cellsJ p0 2 _ rfl).2
    have a3 : World.cell? w1 ⟨w.heap.size, 3, none⟩ = some (.slice none 0 0) := (box_cellsJ p0 3 _ rfl).1
    have af3 := (box_cellsJ p0 3 _ rfl).2
    have a4 : World.cell? w1 ⟨w.heap.size, 4, none⟩ = some (.int .i64 0) := (box_cellsJ p0 4 _ rfl).1
    have af4 := (box_cellsJ p0 4 _ rfl).2
    have a5 : World.cell? w1 ⟨w.heap.size, 5, none⟩ = some (.string ⟨#[]⟩) := (box_cellsJ p0 5 _ rfl).1
    have af5 := (box_cellsJ p0 5 _ rfl).2
    have a6 : World.cell? w1 ⟨w.heap.size, 6, none⟩ = some (.slice none 0 0) := (box_cellsJ p0 6 _ rfl).1
    have af6 := (box_cellsJ p0 6 _ rfl).2
    have a7 : World.cell? w1 ⟨w.heap.size, 7, none⟩ = some (.slice none 0 0) := (box_cellsJ p0 7 _ rfl).1
    have af7 := (box_cellsJ p0 7 _ rfl).2
    have b0 : w1.cell? ⟨w.heap.size + 1, 0, none⟩ = some (.int .i64 0) := (box_cellsJ p1 0 _ rfl).1
    have bf0 := (box_cellsJ p1 0 _ rfl).2
    clear p0 p1 h2 KV
    go_wp2
    refine leaves_cons (f := 24) (args := #[.pointer (some ⟨w.heap.size, 0, none⟩), .pointer (some ⟨w.heap.size + 1, 0, none⟩)]) (by simp) (by simp [go_sem]) ?_
    refine (catch_thrownD w.heap.size (w.heap.size + 1) _ _ _ _ _ _ _ _ _ y [] _ (by omega) a0 af0 a1 af1 a2 af2 a3 af3 a4 af4 a5 af5 a6 af6 a7 af7 b0 bf0).mono ?_
    rintro e u' w'' ⟨rfl, rfl, rfl⟩
    simp [Leaves, settle, results, Tryz.results11, go_sem, a0, a1, a2, a3, a4, a5, a6, a7, b0]
    exact DecPost.no rfl rfl ((((((((((HB1.out.setCell (by simp) _).setCell (by simp) _).setCell (by simp) _).setCell (by simp) _).setCell (by simp) _).setCell (by simp) _).setCell (by simp) _).setCell (by simp) _).setCell (by simp) _).drew)
  | inl p =>
    obtain ⟨t, l2, n2⟩ := p
    obtain ⟨t', rfl, hbare, hi, h2⟩ := hp
    have p0 := (h2.oth.block w.heap.size (by omega) (by omega)).trans Q0.out
    have p1 := (h2.oth.block (w.heap.size + 1) (by omega) (by omega)).trans Q1.out
    have HS : Hid (StJ (w.heap.size + 1 + 1) l2 1 n2 w w1) := Lib.hid ⟨(Oth.of_below HB.out).trans h2.oth, h2.rd⟩
    have HI := Lib.hid hi
    have HM := Lib.hid hbare
    obtain ⟨⟨k, b, neg, ma, mn, mc, x, s, ka, kn, kc, va, vn, vc⟩, M, K, V⟩ := t'
    dsimp only [MT.c, Cel.val]
    have a0 : World.cell? w1 ⟨w.heap.size, 0, none⟩ = some (.int .i64 0) := (box_cellsJ p0 0 _ rfl).1
    have af0 := (box_cellsJ p0 0 _ rfl).2
    have a1 : World.cell? w1 ⟨w.heap.size, 1, none⟩ = some (.bool false) := (box_cellsJ p0 1 _ rfl).1
    have af1 := (box_cellsJ p0 1 _ rfl).2
    have a2 : World.cell? w1 ⟨w.heap.size, 2, none⟩ = some (.bool false) := (box_cellsJ p0 2 _ rfl).1
    have af2 := (box_cellsJ p0 2 _ rfl).2
    have a3 : World.cell? w1 ⟨w.heap.size, 3, none⟩ = some (.slice none 0 0) := (box_cellsJ p0 3 _ rfl).1
    have af3 := (box_cellsJ p0 3 _ rfl).2
    have a4 : World.cell? w1 ⟨w.heap.size, 4, none⟩ = some (.int .i64 0) := (box_cellsJ p0 4 _ rfl).1
    have af4 := (box_cellsJ p0 4 _ rfl).2
    have a5 : World.cell? w1 ⟨w.heap.size, 5, none⟩ = some (.string ⟨#[]⟩) := (box_cellsJ p0 5 _ rfl).1
    have af5 := (box_cellsJ p0 5 _ rfl).2
    have a6 : World.cell? w1 ⟨w.heap.size, 6, none⟩ = some (.slice none 0 0) := (box_cellsJ p0 6 _ rfl).1
    have af6 := (box_cellsJ p0 6 _ rfl).2
    have a7 : World.cell? w1 ⟨w.heap.size, 7, none⟩ = some (.slice none 0 0) := (box_cellsJ p0 7 _ rfl).1
    have af7 := (box_cellsJ p0 7 _ rfl).2
    have HS8 : Hid (StJ (w.heap.size + 1 + 1) l2 1 n2 w ((((((((w1.setCell ⟨w.heap.size, 0, none⟩ (.int .i64 k)).setCell ⟨w.heap.size, 1, none⟩ (.bool b)).setCell ⟨w.heap.size, 2, none⟩ (.bool neg)).setCell ⟨w.heap.size, 3, none⟩ (.slice ma mn mc)).setCell ⟨w.heap.size, 4, none⟩ (.int .i64 x)).setCell ⟨w.heap.size, 5, none⟩ (.string s)).setCell ⟨w.heap.size, 6, none⟩ (.slice ka kn kc)).setCell ⟨w.heap.size, 7, none⟩ (.slice va vn vc))) := Lib.hid ((((((((HS.out.fresh (Nat.le_refl _) (by omega) _ _).fresh (Nat.le_refl _) (by omega) _ _).fresh (Nat.le_refl _) (by omega) _ _).fresh (Nat.le_refl _) (by omega) _ _).fresh (Nat.le_refl _) (by omega) _ _).fresh (Nat.le_refl _) (by omega) _ _).fresh (Nat.le_refl _) (by omega) _ _).fresh (Nat.le_refl _) (by omega) _ _)
    have HP0 : Hid (((((((((w1.setCell ⟨w.heap.size, 0, none⟩ (.int .i64 k)).setCell ⟨w.heap.size, 1, none⟩ (.bool b)).setCell ⟨w.heap.size, 2, none⟩ (.bool neg)).setCell ⟨w.heap.size, 3, none⟩ (.slice ma mn mc)).setCell ⟨w.heap.size, 4, none⟩ (.int .i64 x)).setCell ⟨w.heap.size, 5, none⟩ (.string s)).setCell ⟨w.heap.size, 6, none⟩ (.slice ka kn kc)).setCell ⟨w.heap.size, 7, none⟩ (.slice va vn vc)).heap[w.heap.size]? = some (.cells #[.int .i64 k, .bool b, .bool neg, .slice ma mn mc, .int .i64 x, .string s, .slice ka kn kc, .slice va vn vc] 28)) := Lib.hid (by simp [World.setCell, Array.getElem?_modify, p0])
    have HP1 : Hid (((((((((w1.setCell ⟨w.heap.size, 0, none⟩ (.int .i64 k)).setCell ⟨w.heap.size, 1, none⟩ (.bool b)).setCell ⟨w.heap.size, 2, none⟩ (.bool neg)).setCell ⟨w.heap.size, 3, none⟩ (.slice ma mn mc)).setCell ⟨w.heap.size, 4, none⟩ (.int .i64 x)).setCell ⟨w.heap.size, 5, none⟩ (.string s)).setCell ⟨w.heap.size, 6, none⟩ (.slice ka kn kc)).setCell ⟨w.heap.size, 7, none⟩ (.slice va vn vc)).heap[w.heap.size + 1]? = some (.cells #[.int .i64 0] 31)) := Lib.hid (by
      have hne : w.heap.size + 1 ≠ w.heap.size := by omega
      rw [set_other hne, set_other hne, set_other hne, set_other hne, set_other hne, set_other hne, set_other hne, set_other hne]; exact p1)
    have HI8 : Hid (Ind (fun k => k < W.heap.size) ((((((((w1.setCell ⟨w.heap.size, 0, none⟩ (.int .i64 k)).setCell ⟨w.heap.size, 1, none⟩ (.bool b)).setCell ⟨w.heap.size, 2, none⟩ (.bool neg)).setCell ⟨w.heap.size, 3, none⟩ (.slice ma mn mc)).setCell ⟨w.heap.size, 4, none⟩ (.int .i64 x)).setCell ⟨w.heap.size, 5, none⟩ (.string s)).setCell ⟨w.heap.size, 6, none⟩ (.slice ka kn kc)).setCell ⟨w.heap.size, 7, none⟩ (.slice va vn vc)) (fun W => Rep W (.mk ⟨k, b, neg, ma, mn, mc, x, s, ka, kn, kc, va, vn, vc⟩ M K V))) := Lib.hid (hi.to (by simp [World.setCell]) (fun j hj hx => by
      have hx' : ¬ j < W.heap.size := hx
      have hne : j ≠ w.heap.size := by omega
      rw [set_other hne, set_other hne, set_other hne, set_other hne, set_other hne, set_other hne, set_other hne, set_other hne]) (fun _ _ h => h) (fun _ h => h))
    clear p0 p1 h2 KV hi hbare HI HS
    go_wp2_with fail
    generalize ((((((((w1.setCell ⟨w.heap.size, 0, none⟩ (.int .i64 k)).setCell ⟨w.heap.size, 1, none⟩ (.bool b)).setCell ⟨w.heap.size, 2, none⟩ (.bool neg)).setCell ⟨w.heap.size, 3, none⟩ (.slice ma mn mc)).setCell ⟨w.heap.size, 4, none⟩ (.int .i64 x)).setCell ⟨w.heap.size, 5, none⟩ (.string s)).setCell ⟨w.heap.size, 6, none⟩ (.slice ka kn kc)).setCell ⟨w.heap.size, 7, none⟩ (.slice va vn vc)) = w2 at *
    refine (skip_any (w.heap.size + 1 + 1) l2 1 n2 w2 HS8.out.rd).mono ?_
    rintro r w3 ⟨rfl, h3⟩
    have p0 := (h3.oth.block w.heap.size (Array.getElem?_eq_some_iff.1 HP0.out).1 (by omega)).trans HP0.out
    have p1 := (h3.oth.block (w.heap.size + 1) (Array.getElem?_eq_some_iff.1 HP1.out).1 (by omega)).trans HP1.out
    have HB3 : Hid (Below w.heap.size w w3) := Lib.hid ((HS8.out.trans h3).oth.below (by omega) (Nat.le_refl _))
    have HI3 : Hid (Ind (fun k => k < W.heap.size) w3 (fun W => Rep W (.mk ⟨k, b, neg, ma, mn, mc, x, s, ka, kn, kc, va, vn, vc⟩ M K V))) := Lib.hid (HI8.out.to h3.oth.size (fun j hj hx => h3.oth.block j hj (by have hx' : ¬ j < W.heap.size := hx; omega)) (fun _ _ h => h) (fun _ h => h))
    clear a0 a1 a2 a3 a4 a5 a6 a7 af0 af1 af2 af3 af4 af5 af6 af7 HP0 HP1 HI8 HS8
    have a0 : World.cell? w3 ⟨w.heap.size, 0, none⟩ = some (.int .i64 k) := (box_cellsJ p0 0 _ rfl).1
    have af0 := (box_cellsJ p0 0 _ rfl).2
    have a1 : World.cell? w3 ⟨w.heap.size, 1, none⟩ = some (.bool b) := (box_cellsJ p0 1 _ rfl).1
    have af1 := (box_cellsJ p0 1 _ rfl).2
    have a2 : World.cell? w3 ⟨w.heap.size, 2, none⟩ = some (.bool neg) := (box_cellsJ p0 2 _ rfl).1
    have af2 := (box_cellsJ p0 2 _ rfl).2
    have a3 : World.cell? w3 ⟨w.heap.size, 3, none⟩ = some (.slice ma mn mc) := (box_cellsJ p0 3 _ rfl).1
    have af3 := (box_cellsJ p0 3 _ rfl).2
    have a4 : World.cell? w3 ⟨w.heap.size, 4, none⟩ = some (.int .i64 x) := (box_cellsJ p0 4 _ rfl).1
    have af4 := (box_cellsJ p0 4 _ rfl).2
    have a5 : World.cell? w3 ⟨w.heap.size, 5, none⟩ = some (.string s) := (box_cellsJ p0 5 _ rfl).1
    have af5 := (box_cellsJ p0 5 _ rfl).2
    have a6 : World.cell? w3 ⟨w.heap.size, 6, none⟩ = some (.slice ka kn kc) := (box_cellsJ p0 6 _ rfl).1
    have af6 := (box_cellsJ p0 6 _ rfl).2
    have a7 : World.cell? w3 ⟨w.heap.size, 7, none⟩ = some (.slice va vn vc) := (box_cellsJ p0 7 _ rfl).1
    have af7 := (box_cellsJ p0 7 _ rfl).2
    have b0 : w3.cell? ⟨w.heap.size + 1, 0, none⟩ = some (.int .i64 0) := (box_cellsJ p1 0 _ rfl).1
    have bf0 := (box_cellsJ p1 0 _ rfl).2
    have c0 := h3.rd.c0
    have f0 := h3.rd.fz 0
    clear h3 p0 p1
    cases hs : skipL l2 with
    | nil =>
      have HS := Lib.hid hs
      rw [hs] at c0
      clear hs
      have n1 : ¬ w.heap.size + 1 = w.heap.size := by omega
      go_wp2
      refine leaves_cons (f := 24) (args := #[.pointer (some ⟨w.heap.size, 0, none⟩), .pointer (some ⟨w.heap.size + 1, 0, none⟩)]) (by simp) (by simp [go_sem]) ?_
      refine (catch_idleD _ _ _).mono ?_
      rintro e u' w'' ⟨rfl, rfl, rfl⟩
      simp [Leaves, settle, results, Tryz.results11, go_sem, a0, a1, a2, a3, a4, a5, a6, a7, b0]
      rw [show finL (.inl (t, l2, n2)) = .inl t from by unfold finL; simp [HS.out]]
      refine ⟨.mk ⟨k, b, neg, ma, mn, mc, x, s, ka, kn, kc, va, vn, vc⟩ M K V, rfl, HM.out, HI3.out _ (by simp [World.setCell]) (fun j hj hx => ?_), (((((((((HB3.out.setCell (by simp) _).setCell (by simp) _).setCell (by simp) _).setCell (by simp) _).setCell (by simp) _).setCell (by simp) _).setCell (by simp) _).setCell (by simp) _).setCell (by simp) _)⟩
      have hx' : ¬ j < W.heap.size := hx
      have hne : j ≠ w.heap.size := by omega
      have hne2 : j ≠ w.heap.size + 1 := by omega
      rw [set_other hne2, set_other hne, set_other hne, set_other hne, set_other hne, set_other hne, set_other hne, set_other hne, set_other hne]
    | cons y ys =>
      have HS := Lib.hid hs
      rw [hs] at c0
      clear hs
      go_wp2
      refine leaves_cons (f := 24) (args := #[.pointer (some ⟨w.heap.size, 0, none⟩), .pointer (some ⟨w.heap.size + 1, 0, none⟩)]) (by simp) (by simp [go_sem]) ?_
      refine (catch_thrownD w.heap.size (w.heap.size + 1) _ _ _ _ _ _ _ _ _ 2 [] _ (by omega) a0 af0 a1 af1 a2 af2 a3 af3 a4 af4 a5 af5 a6 af6 a7 af7 b0 bf0).mono ?_
      rintro e u' w'' ⟨rfl, rfl, rfl⟩
      simp [Leaves, settle, results, Tryz.results11, go_sem, a0, a1, a2, a3, a4, a5, a6, a7, b0]
      exact DecPost.no (by unfold finL; simp [HS.out]) rfl ((((((((((HB3.out.setCell (by simp) _).setCell (by simp) _).setCell (by simp) _).setCell (by simp) _).setCell (by simp) _).setCell (by simp) _).setCell (by simp) _).setCell (by simp) _).setCell (by simp) _).drew)
end Go.Proofs.YtgolidabjcmofaaGreatDoor
