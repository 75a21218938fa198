/- The walk of num's Parse: what is thrown is caught. -/
import Derived.Test.YtogapgjilbcbfaaGreatDoorC6
import Derived.Defers
import Derived.Recover
import Derived.RegionTactic
namespace Go.Proofs.YtogapgjilbcbfaaGreatDoor
open Go.RowKit Go.Sort
set_option linter.unusedVariables false
set_option linter.unusedSimpArgs false

theorem number_some {w0 w : World} {l : List Ent} (h : Ctx w0 w l) (p : Pt) (hp : PtOk p) {neg : Bool} {m : Nat} {e : Int} (hn : numberL p = some (neg, m, e)) :
    Calls Tryz.prog 50 #[.agg #[.bool p.neg, .string (txt p.whole), .string (txt p.frac), .bool p.down, .string (txt p.exp)]] w (NumGives w0 l 2000 neg m e) := by
  unfold numberL at hn
  split at hn
  · rename_i h0
    simp only [Option.some.injEq, Prod.mk.injEq] at hn
    obtain ⟨rfl, rfl, rfl⟩ := hn
    exact number_zero h p hp h0
  · rename_i h0
    split at hn
    · cases hn
    · rename_i h6
      split at hn
      · rename_i hr
        simp only [Option.some.injEq, Prod.mk.injEq] at hn
        obtain ⟨rfl, rfl, rfl⟩ := hn
        have hb := expV_bd (p := p) (by omega) hp.x
        obtain ⟨s1, s2⟩ := trim_spec h0
        refine number_core h p hp h0 (by omega) hb _ _ _ true (fun v w0 w hc => ?_) _ (fun v w' _ hc => ⟨v, rfl, hc⟩) (fun _ hh _ => by cases hh)
        exact make_yes hc 0 rfl (by decide) p.neg _ _ _ s1 s2 hr.1 hr.2.1 hr.2.2
      · cases hn
theorem number_none {w0 w : World} {l : List Ent} (h : Ctx w0 w l) (p : Pt) (hp : PtOk p) (hn : numberL p = none) :
    Calls Tryz.prog 50 #[.agg #[.bool p.neg, .string (txt p.whole), .string (txt p.frac), .bool p.down, .string (txt p.exp)]] w (NumThrows w0 l) := by
  unfold numberL at hn
  split at hn
  · cases hn
  · rename_i h0
    split at hn
    · rename_i h6
      exact number_wide h p hp h0 h6
    · rename_i h6
      split at hn
      · cases hn
      · rename_i hr
        have hb := expV_bd (p := p) (by omega) hp.x
        obtain ⟨s1, s2⟩ := trim_spec h0
        refine number_core h p hp h0 (by omega) hb false 0 0 false (fun v w0 w hc => ?_) _ (fun _ _ hh _ => by cases hh) (fun w' _ hc => ⟨rfl, hc⟩)
        exact make_no hc 0 rfl (by decide) p.neg _ _ _ s1 s2 hr (by have := hp.len; omega)

theorem assert_errno (x : Int) (W : World) : (Instr.typeAssert (.iface 39 (.int .i64 x)) 20 39 false).run Tryz.prog W = .ok (.int .i64 x) W := by kernel_rfl
/-- The closure that catches: what was thrown becomes the answer. -/
theorem catch_thrown (g h : Nat) (b0 : Bool) (v1 : Value) (i2 i3 x : Int) (older : List PanicEntry) (w : World) (hne : g ≠ h)
    (c0 : w.cell? ⟨g, 0, none⟩ = some (.bool b0)) (c1 : w.cell? ⟨g, 1, none⟩ = some v1) (c2 : w.cell? ⟨g, 2, none⟩ = some (.int .i64 i2)) (c3 : w.cell? ⟨h, 0, none⟩ = some (.int .i64 i3))
    (f0 : ∀ j, w.frozen? ⟨g, j, none⟩ = false) (f1 : ∀ j, w.frozen? ⟨h, j, none⟩ = false) :
    CallsD Tryz.prog 48 #[.pointer (some ⟨g, 0, none⟩), .pointer (some ⟨h, 0, none⟩)] (.panicking ({ v := .iface 39 (.int .i64 x), recovered := false } :: older)) w fun e u' w' =>
      e = .returned (.tuple #[]) ∧ u' = .panicking ({ v := .iface 39 (.int .i64 x), recovered := true } :: older) ∧
        w' = ((((w.setCell ⟨g, 0, none⟩ (.bool false)).setCell ⟨g, 1, none⟩ (.slice none 0 0)).setCell ⟨g, 2, none⟩ (.int .i64 0)).setCell ⟨h, 0, none⟩ (.int .i64 x)).drew := by
  refine callsD_of_wpS Tryz.func48 rfl fun c₀ cs hu => ?_
  apply wpS_seq
  apply wpS_region
  simp [wpOpsS, go_sem, recoverD, hu, Tryz.ntmps48, Exit.thenS]
  apply wpS_seq
  apply wpS_region
  simp [wpOpsS, go_sem, Exit.thenS]
  refine wpS_cond (t := true) (by simp [Act.eval, Array.replicate]) ?_
  simp only [if_true]
  refine wpS_of_wp ?_
  change Code.wp _ _ _ { tmps := #[.pointer (some ⟨g, 0, none⟩), .pointer (some ⟨h, 0, none⟩), .iface 39 (.int .i64 x), .iface 39 (.int .i64 x), .iface 39 (.int .i64 x), .bool true, undef, undef, undef], defers := [] } w
  have hne2 : ¬ h = g := fun hh => hne hh.symm
  have f00 := f0 0
  have f01 := f0 1
  have f02 := f0 2
  have f10 := f1 0
  clear f0 f1
  have hta := assert_errno x
  go_region
  exact ⟨rfl, _, rfl, .tuple #[], by simp [results, Tryz.results48, go_sem], rfl, rfl, rfl⟩

/-- The closure, where nothing was thrown. -/
theorem catch_idle (p q : Addr) (w : World) :
    CallsD Tryz.prog 48 #[.pointer (some p), .pointer (some q)] .returning w fun e u' w' => e = .returned (.tuple #[]) ∧ u' = .returning ∧ w' = w := by
  refine callsD_of_wpS Tryz.func48 rfl fun c₀ cs hu => ?_
  apply wpS_seq
  apply wpS_region
  simp [wpOpsS, go_sem, recoverD, hu, Tryz.ntmps48, Exit.thenS]
  apply wpS_seq
  apply wpS_region
  simp [wpOpsS, go_sem, Exit.thenS]
  refine wpS_cond (t := false) (by simp [Act.eval, Array.replicate]) ?_
  simp only [Bool.false_eq_true, if_false]
  refine wpS_of_wp (wp_skip ?_)
  cases c₀
  simp_all [bodyPostS, results, Tryz.results48]

def ParsedPost (w0 : World) (l0 : List Ent) : (Bool × Nat × Int) ⊕ Int → Ending → World → Prop
  | .inl (neg, m, e), r, w' => ∃ v, r = .returned (.tuple #[.agg #[.bool neg, v, .int .i64 e], .int .i64 0]) ∧ Ctx w0 w' (⟨v, 2000, m, limbs m⟩ :: l0)
  | .inr n, r, w' => r = .returned (.tuple #[.agg #[.bool false, .slice none 0 0, .int .i64 0], .int .i64 n]) ∧ Ctx w0 w' l0

set_option maxHeartbeats 4000000 in
theorem numParse_long {w0 w : World} {l0 : List Ent} (h : Ctx w0 w l0) (l : List Nat) (hl : 2000 < l.length) :
    Calls Tryz.prog 24 #[.string (txt l)] w (ParsedPost w0 l0 (.inr 4)) := by
  have hmf : ∀ (fn : Fn) (first cap : Array Value) (w : World), (Instr.makeFunc fn first cap).run Tryz.prog w = .ok (.func fn first cap) w := fun _ _ _ _ => rfl
  have hsz : (txt l).size = l.length := txt_size l
  have hl' : (2000 : Int) < (l.length : Int) := by omega
  go_enter_defers Tryz.func24, Tryz.ntmps24
  go_wp2
  have hctx := h.step (((Below.refl w.heap.size w).alloc (Nat.le_refl _) (.cells #[.bool false, .slice none 0 0, .int .i64 0] 24)).alloc (by simp) (.cells #[.int .i64 0] 39))
  have hW := h.below.size
  refine leaves_cons (f := 48) (args := #[.pointer (some ⟨w.heap.size, 0, none⟩), .pointer (some ⟨w.heap.size + 1, 0, none⟩)]) (by simp) (by simp [go_sem]) ?_
  refine (catch_thrown w.heap.size (w.heap.size + 1) false (.slice none 0 0) 0 0 4 [] _ (by omega) (by simp [World.cell?_alloc_lt]) (by simp [World.cell?_alloc_lt]) (by simp [World.cell?_alloc_lt]) (by simp) (fun j => by simp [go_sem]) (fun j => by simp [go_sem])).mono ?_
  rintro e u' w'' ⟨rfl, rfl, rfl⟩
  simp [Leaves, settle, results, Tryz.results24, go_sem]
  exact ⟨rfl, (h.step (((Below.refl w.heap.size w).alloc (Nat.le_refl _) _).alloc (by simp) _)).drewN 1⟩

/-- What was thrown is caught: the world behind. -/
theorem Ctx.thrown {w0 w W : World} {l0 : List Ent} (h : Ctx w0 W l0) (hW : w0.heap.size ≤ w.heap.size)
    (c0 : W.cell? ⟨w.heap.size, 0, none⟩ = some (.bool false)) (c1 : W.cell? ⟨w.heap.size, 1, none⟩ = some (.slice none 0 0)) (c2 : W.cell? ⟨w.heap.size, 2, none⟩ = some (.int .i64 0)) (c3 : W.cell? ⟨w.heap.size + 1, 0, none⟩ = some (.int .i64 0)) (x : Int) :
    Ctx w0 ((((W.setCell ⟨w.heap.size, 0, none⟩ (.bool false)).setCell ⟨w.heap.size, 1, none⟩ (.slice none 0 0)).setCell ⟨w.heap.size, 2, none⟩ (.int .i64 0)).setCell ⟨w.heap.size + 1, 0, none⟩ (.int .i64 x)).drew l0 := by
  have h2 := h.box3 hW c0 c1 c2 (.bool false) (.slice none 0 0) (.int .i64 0)
  have d : (((W.setCell ⟨w.heap.size, 0, none⟩ (.bool false)).setCell ⟨w.heap.size, 1, none⟩ (.slice none 0 0)).setCell ⟨w.heap.size, 2, none⟩ (.int .i64 0)).cell? ⟨w.heap.size + 1, 0, none⟩ = some (.int .i64 0) := by
    rw [World.cell?_setCell_other (h := by simp), World.cell?_setCell_other (h := by simp), World.cell?_setCell_other (h := by simp)]; exact c3
  exact (h2.setBox (by omega) d (fun _ => by simp) _).drewN 1

set_option maxHeartbeats 4000000 in
theorem numParse_bad {w0 w : World} {l0 : List Ent} (h : Ctx w0 w l0) (l : List Nat) (ho : Okb l) (hl : l.length ≤ 2000) (hr : readL l = none) :
    Calls Tryz.prog 24 #[.string (txt l)] w (ParsedPost w0 l0 (.inr 2)) := by
  have hmf : ∀ (fn : Fn) (first cap : Array Value) (w : World), (Instr.makeFunc fn first cap).run Tryz.prog w = .ok (.func fn first cap) w := fun _ _ _ _ => rfl
  have hsz : (txt l).size = l.length := txt_size l
  have hl' : ¬ (2000 : Int) < (l.length : Int) := by omega
  have hb0 : Below w.heap.size w ((w.alloc (.cells #[.bool false, .slice none 0 0, .int .i64 0] 24)).alloc (.cells #[.int .i64 0] 39)) := (((Below.refl w.heap.size w).alloc (Nat.le_refl _) _).alloc (by simp) _)
  have hctx := Lib.hid (h.step hb0)
  have hW := h.below.size
  have KR := Lib.hid (fun W => read_any l W ho hl)
  have HR := Lib.hid hr
  clear h hr hb0
  go_enter_defers Tryz.func24, Tryz.ntmps24
  go_wp2_with fail
  refine (KR.out _).mono ?_
  rintro r w1 (⟨_, rfl, hb⟩ | ⟨p, hp, _⟩)
  · obtain ⟨hc, hf⟩ := bcell hb
    have c0 : w1.cell? ⟨w.heap.size, 0, none⟩ = some (.bool false) := by rw [hc _ _ (by simp <;> omega)]; simp [World.cell?_alloc_lt]
    have c1 : w1.cell? ⟨w.heap.size, 1, none⟩ = some (.slice none 0 0) := by rw [hc _ _ (by simp <;> omega)]; simp [World.cell?_alloc_lt]
    have c2 : w1.cell? ⟨w.heap.size, 2, none⟩ = some (.int .i64 0) := by rw [hc _ _ (by simp <;> omega)]; simp [World.cell?_alloc_lt]
    have c3 : w1.cell? ⟨w.heap.size + 1, 0, none⟩ = some (.int .i64 0) := by rw [hc _ _ (by simp <;> omega)]; simp
    have f0 : ∀ j, w1.frozen? ⟨w.heap.size, j, none⟩ = false := fun j => by rw [hf _ _ (by simp <;> omega)]; simp [go_sem]
    have f1 : ∀ j, w1.frozen? ⟨w.heap.size + 1, j, none⟩ = false := fun j => by rw [hf _ _ (by simp <;> omega)]; simp [go_sem]
    have hfin := Lib.hid ((hctx.out.step hb).thrown hW c0 c1 c2 c3 2)
    clear hc hf
    go_wp2
    refine leaves_cons (f := 48) (args := #[.pointer (some ⟨w.heap.size, 0, none⟩), .pointer (some ⟨w.heap.size + 1, 0, none⟩)]) (by simp) (by simp [go_sem]) ?_
    refine (catch_thrown w.heap.size (w.heap.size + 1) false (.slice none 0 0) 0 0 2 [] _ (by omega) c0 c1 c2 c3 f0 f1).mono ?_
    rintro e u' w'' ⟨rfl, rfl, rfl⟩
    simp [Leaves, settle, results, Tryz.results24, go_sem, c0, c1, c2, c3]
    exact ⟨rfl, hfin.out⟩
  · rw [HR.out] at hp; cases hp

theorem ptOk_read {l : List Nat} {p : Pt} (hl : l.length ≤ 2000) (h : readL l = some p) : PtOk p := by
  have hb : ¬ wholeBad (digs (rest l 45)) := fun hb => by rw [readL_bad hb] at h; cases h
  have hw0 : 0 < (digs (rest l 45)).length := by
    rcases Nat.eq_zero_or_pos (digs (rest l 45)).length with h1 | h1
    · exact absurd (.inl (List.eq_nil_of_length_eq_zero h1)) hb
    · exact h1
  have e1 : (digs (rest l 45)).length + (undigs (rest l 45)).length = (rest l 45).length := by
    rw [← List.length_append]; exact congrArg List.length List.takeWhile_append_dropWhile
  have hl1 := rest_len l 45
  unfold readL at h
  rw [if_neg hb] at h
  generalize undigs (rest l 45) = l2 at *
  have hd := digs_ok (rest l 45)
  generalize digs (rest l 45) = D at *
  cases hf : fracL l2 with
  | none => rw [hf] at h; cases h
  | some q =>
    obtain ⟨f, l3⟩ := q
    rw [hf] at h
    simp only at h
    have hfo : Okd f ∧ f.length ≤ l2.length ∧ l3.length ≤ l2.length := by
      unfold fracL at hf
      split at hf
      · split at hf
        · cases hf
        · simp only [Option.some.injEq, Prod.mk.injEq] at hf
          obtain ⟨rfl, rfl⟩ := hf
          have := digs_len l2.tail
          have := undigs_len l2.tail
          simp at *
          exact ⟨digs_ok _, by omega, by omega⟩
      · simp only [Option.some.injEq, Prod.mk.injEq] at hf
        obtain ⟨rfl, rfl⟩ := hf
        exact ⟨Okd.nil, by simp, Nat.le_refl _⟩
    cases hx : expL l3 with
    | none => rw [hx] at h; cases h
    | some q =>
      obtain ⟨d, x, l4⟩ := q
      rw [hx] at h
      simp only at h
      have hxo : Okd x ∧ x.length ≤ l3.length := by
        unfold expL at hx
        split at hx
        · split at hx
          · cases hx
          · simp only [Option.some.injEq, Prod.mk.injEq] at hx
            obtain ⟨rfl, rfl, rfl⟩ := hx
            have h1 := digs_len (signL l3.tail)
            have h2 := sign_len l3.tail
            simp only [List.length_tail] at h2
            exact ⟨digs_ok _, by omega⟩
        · simp only [Option.some.injEq, Prod.mk.injEq] at hx
          obtain ⟨rfl, rfl, rfl⟩ := hx
          exact ⟨Okd.nil, by simp⟩
      split at h
      · simp only [Option.some.injEq] at h
        subst h
        exact ⟨hd, hw0, hfo.1, hxo.1, by simp only; omega, by simp only; omega⟩
      · cases h

set_option maxHeartbeats 4000000 in
theorem numParse_noroom {w0 w : World} {l0 : List Ent} (h : Ctx w0 w l0) (l : List Nat) (ho : Okb l) (hl : l.length ≤ 2000) (p : Pt) (hr : readL l = some p) (hn : numberL p = none) :
    Calls Tryz.prog 24 #[.string (txt l)] w (ParsedPost w0 l0 (.inr 4)) := by
  have hmf : ∀ (fn : Fn) (first cap : Array Value) (w : World), (Instr.makeFunc fn first cap).run Tryz.prog w = .ok (.func fn first cap) w := fun _ _ _ _ => rfl
  have hsz : (txt l).size = l.length := txt_size l
  have hl' : ¬ (2000 : Int) < (l.length : Int) := by omega
  have hpo := ptOk_read hl hr
  have hb0 : Below w.heap.size w ((w.alloc (.cells #[.bool false, .slice none 0 0, .int .i64 0] 24)).alloc (.cells #[.int .i64 0] 39)) := (((Below.refl w.heap.size w).alloc (Nat.le_refl _) _).alloc (by simp) _)
  have hctx := Lib.hid (h.step hb0)
  have hW := h.below.size
  have KR := Lib.hid (fun W => read_any l W ho hl)
  have KN := Lib.hid (fun (W : World) (l1 : List Ent) (hc : Ctx W W l1) => number_none hc p hpo hn)
  have HR := Lib.hid hr
  clear h hr hb0 hn
  go_enter_defers Tryz.func24, Tryz.ntmps24
  go_wp2_with fail
  refine (KR.out _).mono ?_
  rintro r w1 (⟨hp, _⟩ | ⟨p', hp, rfl, hb⟩)
  · rw [HR.out] at hp; cases hp
  · obtain rfl : p = p' := Option.some.inj (HR.out.symm.trans hp)
    have KNw := Lib.hid (KN.out w1 l0 ((hctx.out.step hb).again))
    have hcw := Lib.hid (hctx.out.step hb)
    unfold PtV
    go_wp2_with fail
    refine KNw.out.mono ?_
    rintro r w2 ⟨rfl, h2⟩
    have hb2 := below_on hb h2.below
    obtain ⟨hc, hf⟩ := bcell hb2
    have c0 : w2.cell? ⟨w.heap.size, 0, none⟩ = some (.bool false) := by rw [hc _ _ (by simp <;> omega)]; simp [World.cell?_alloc_lt]
    have c1 : w2.cell? ⟨w.heap.size, 1, none⟩ = some (.slice none 0 0) := by rw [hc _ _ (by simp <;> omega)]; simp [World.cell?_alloc_lt]
    have c2 : w2.cell? ⟨w.heap.size, 2, none⟩ = some (.int .i64 0) := by rw [hc _ _ (by simp <;> omega)]; simp [World.cell?_alloc_lt]
    have c3 : w2.cell? ⟨w.heap.size + 1, 0, none⟩ = some (.int .i64 0) := by rw [hc _ _ (by simp <;> omega)]; simp
    have f0 : ∀ j, w2.frozen? ⟨w.heap.size, j, none⟩ = false := fun j => by rw [hf _ _ (by simp <;> omega)]; simp [go_sem]
    have f1 : ∀ j, w2.frozen? ⟨w.heap.size + 1, j, none⟩ = false := fun j => by rw [hf _ _ (by simp <;> omega)]; simp [go_sem]
    have hfin := Lib.hid ((hcw.out.step h2.below).thrown hW c0 c1 c2 c3 4)
    clear hc hf hb hb2 h2 hp
    go_wp2
    refine leaves_cons (f := 48) (args := #[.pointer (some ⟨w.heap.size, 0, none⟩), .pointer (some ⟨w.heap.size + 1, 0, none⟩)]) (by simp) (by simp [go_sem]) ?_
    refine (catch_thrown w.heap.size (w.heap.size + 1) false (.slice none 0 0) 0 0 4 [] _ (by omega) c0 c1 c2 c3 f0 f1).mono ?_
    rintro e u' w'' ⟨rfl, rfl, rfl⟩
    simp [Leaves, settle, results, Tryz.results24, go_sem, c0, c1, c2, c3]
    exact ⟨rfl, hfin.out⟩

set_option maxHeartbeats 4000000 in
theorem numParse_ok {w0 w : World} {l0 : List Ent} (h : Ctx w0 w l0) (l : List Nat) (ho : Okb l) (hl : l.length ≤ 2000) (p : Pt) (hr : readL l = some p) (neg : Bool) (m : Nat) (e : Int) (hn : numberL p = some (neg, m, e)) :
    Calls Tryz.prog 24 #[.string (txt l)] w (ParsedPost w0 l0 (.inl (neg, m, e))) := by
  have hmf : ∀ (fn : Fn) (first cap : Array Value) (w : World), (Instr.makeFunc fn first cap).run Tryz.prog w = .ok (.func fn first cap) w := fun _ _ _ _ => rfl
  have hsz : (txt l).size = l.length := txt_size l
  have hl' : ¬ (2000 : Int) < (l.length : Int) := by omega
  have hpo := ptOk_read hl hr
  have hb0 : Below w.heap.size w ((w.alloc (.cells #[.bool false, .slice none 0 0, .int .i64 0] 24)).alloc (.cells #[.int .i64 0] 39)) := (((Below.refl w.heap.size w).alloc (Nat.le_refl _) _).alloc (by simp) _)
  have hctx := Lib.hid (h.step hb0)
  have hW := h.below.size
  have KR := Lib.hid (fun W => read_any l W ho hl)
  have KN := Lib.hid (fun (W : World) (l1 : List Ent) (hc : Ctx W W l1) => number_some hc p hpo hn)
  have HR := Lib.hid hr
  clear h hr hb0 hn
  go_enter_defers Tryz.func24, Tryz.ntmps24
  go_wp2_with fail
  refine (KR.out _).mono ?_
  rintro r w1 (⟨hp, _⟩ | ⟨p', hp, rfl, hb⟩)
  · rw [HR.out] at hp; cases hp
  · obtain rfl : p = p' := Option.some.inj (HR.out.symm.trans hp)
    have KNw := Lib.hid (KN.out w1 l0 ((hctx.out.step hb).again))
    have hcw := Lib.hid (hctx.out.step hb)
    unfold PtV
    go_wp2_with fail
    refine KNw.out.mono ?_
    rintro r w2 ⟨v, rfl, h2⟩
    obtain ⟨ad, cap, rfl, _⟩ := h2.get 0 rfl
    have hb2 := below_on hb h2.below
    obtain ⟨hc, hf⟩ := bcell hb2
    have c0 : w2.cell? ⟨w.heap.size, 0, none⟩ = some (.bool false) := by rw [hc _ _ (by simp <;> omega)]; simp [World.cell?_alloc_lt]
    have c1 : w2.cell? ⟨w.heap.size, 1, none⟩ = some (.slice none 0 0) := by rw [hc _ _ (by simp <;> omega)]; simp [World.cell?_alloc_lt]
    have c2 : w2.cell? ⟨w.heap.size, 2, none⟩ = some (.int .i64 0) := by rw [hc _ _ (by simp <;> omega)]; simp [World.cell?_alloc_lt]
    have c3 : w2.cell? ⟨w.heap.size + 1, 0, none⟩ = some (.int .i64 0) := by rw [hc _ _ (by simp <;> omega)]; simp
    have f0 : ∀ j, w2.frozen? ⟨w.heap.size, j, none⟩ = false := fun j => by rw [hf _ _ (by simp <;> omega)]; simp [go_sem]
    have f1 : ∀ j, w2.frozen? ⟨w.heap.size + 1, j, none⟩ = false := fun j => by rw [hf _ _ (by simp <;> omega)]; simp [go_sem]
    have hx : Ctx w0 w2 (⟨.slice ad (limbs m).length cap, 2000, m, limbs m⟩ :: l0) := ⟨below_on hcw.out.below h2.below, h2.all⟩
    have hy := hx.box3 hW c0 c1 c2 (.bool neg) (.slice ad (limbs m).length cap) (.int .i64 e)
    have d3 : (((w2.setCell ⟨w.heap.size, 0, none⟩ (.bool neg)).setCell ⟨w.heap.size, 1, none⟩ (.slice ad (limbs m).length cap)).setCell ⟨w.heap.size, 2, none⟩ (.int .i64 e)).cell? ⟨w.heap.size + 1, 0, none⟩ = some (.int .i64 0) := by
      rw [World.cell?_setCell_other (h := by simp), World.cell?_setCell_other (h := by simp), World.cell?_setCell_other (h := by simp)]; exact c3
    have hfin := Lib.hid (hy.setBox (by omega) d3 (fun _ => by simp) (.int .i64 0))
    have f00 := f0 0
    have f01 := f0 1
    have f02 := f0 2
    have f10 := f1 0
    clear hc hf hb hb2 h2 hp f0 f1 hx hy d3
    generalize (limbs m).length = n at *
    go_wp2
    refine leaves_cons (f := 48) (args := #[.pointer (some ⟨w.heap.size, 0, none⟩), .pointer (some ⟨w.heap.size + 1, 0, none⟩)]) (by simp) (by simp [go_sem]) ?_
    refine (catch_idle _ _ _).mono ?_
    rintro e u' w'' ⟨rfl, rfl, rfl⟩
    simp [Leaves, settle, results, Tryz.results24, go_sem, c0, c1, c2, c3]
    exact ⟨_, rfl, hfin.out⟩

/-- Parse, whatever the text. -/
theorem numParse_any {w0 w : World} {l0 : List Ent} (h : Ctx w0 w l0) (l : List Nat) (ho : Okb l) : Calls Tryz.prog 24 #[.string (txt l)] w (ParsedPost w0 l0 (parseN l)) := by
  unfold parseN
  split
  · rename_i hl; exact numParse_long h l hl
  · rename_i hl
    split
    · rename_i hr; exact numParse_bad h l ho (by omega) hr
    · rename_i p hr
      split
      · rename_i hn; exact numParse_noroom h l ho (by omega) p hr hn
      · rename_i r hn
        obtain ⟨neg, m, e⟩ := r
        exact numParse_ok h l ho (by omega) p hr neg m e hn
end Go.Proofs.YtogapgjilbcbfaaGreatDoor
