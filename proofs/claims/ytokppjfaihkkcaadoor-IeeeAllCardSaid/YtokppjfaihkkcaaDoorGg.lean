/- A number's copy; To of any number; the reference's Shortest. -/
import Derived.Deep.RegionHeldLaw
import Derived.Test.YtokppjfaihkkcaaDoorGf
namespace Go.Proofs.YtokppjfaihkkcaaDoor
open Go.RowKit Go.Sort
set_option linter.unusedVariables false
set_option linter.unusedSimpArgs false

theorem step_call2 {w : World} {ops : Array Oper} {o : Oper} {a : Act} {K : Act → World → Prop} {Q : Exit → Act → World → Prop} {E : Prop} (hgd : o.guard = none) (n : Nat) (fn : Func) (hf : Tryd.prog.funcs[n]? = some fn) (hn : (fn.name == "runtime.NumGoroutine") = false) (hb : fn.body.isNone = false)
    (args : Array Operand) (ts : Array TypeId) (ho : o.op = .call { callee := .value (.func n), args := args, argTypes := ts }) (vs : Array Value) (hv : args.map a.eval = vs) {Post : Ending → World → Prop} (C : Calls Tryd.prog n vs w Post)
    (h : ∀ r w', Post r w' → ∃ v, r = .returned v ∧ K (a.put o.dst v) w') :
    if Region.wanted o (yielded ops a.tmps) = true then Oper.wp Tryd.prog o a w K Q else E := by
  have hw : Region.wanted o (yielded ops a.tmps) = true := by simp [Region.wanted, hgd]
  rw [if_pos hw]
  have hx : (execOp a.eval o).run Tryd.prog w = .ok (.enter n vs) w := by
    have e0 : a.eval (.func n) = .func (.func n) #[] #[] := rfl
    simp [execOp, ho, resolve, Deferred.ofValue, invoke, callFunc, hf, hv, e0, go_sem]
    rw [if_neg (by simpa using hn), if_neg (by intro h0; rw [h0] at hb; cases hb)]
  unfold Oper.wp
  rw [hx, Oper.upon_enter]
  exact C.mono (fun r w' hp => by obtain ⟨v, rfl, hk⟩ := h r w' hp; exact hk)

set_option maxHeartbeats 4000000 in
set_option maxRecDepth 100000 in
theorem rnum_any {w0 w : World} {l : List Ent} (h : Ctx w0 w l) (ng : Bool) (ad : Option Addr) (n cap : Nat) (xs : List Nat) (E : Int) (hn : xs.length = n) (hcap : n ≤ cap) (hm : n ≤ 100000000) (ho : Okl xs) (hr : Rd w ad xs) :
    Calls Tryd.prog 15 #[.agg #[.bool ng, .slice ad n cap, .int .i64 E]] w fun r w' => ∃ v, r = .returned (.agg #[.bool ng, v, .int .i64 E]) ∧ Ctx w0 w' (⟨v, n, val xs, xs⟩ :: l) := by
  have hbl : Below w.heap.size w ((w.alloc (.cells #[.bool ng, .slice ad n cap, .int .i64 E] 25)).alloc (.cells #[.bool false, .slice none 0 0, .int .i64 0] 25)) := ((Below.refl _ _).alloc (Nat.le_refl _) _).alloc (by simp) _
  obtain ⟨W0, hW0⟩ : ∃ W0, W0 = (w.alloc (.cells #[.bool ng, .slice ad n cap, .int .i64 E] 25)).alloc (.cells #[.bool false, .slice none 0 0, .int .i64 0] 25) := ⟨_, rfl⟩
  rw [← hW0] at hbl
  have hsz : W0.heap.size = w.heap.size + 2 := by rw [hW0]; simp
  have q0 : W0.cell? ⟨w.heap.size, 0, none⟩ = some (.bool ng) := by rw [hW0]; simp
  have q1 : W0.cell? ⟨w.heap.size, 1, none⟩ = some (.slice ad n cap) := by rw [hW0]; simp
  have q2 : W0.cell? ⟨w.heap.size, 2, none⟩ = some (.int .i64 E) := by rw [hW0]; simp
  have p0 : W0.cell? ⟨w.heap.size + 1, 0, none⟩ = some (.bool false) := by rw [hW0]; simp
  have p1 : W0.cell? ⟨w.heap.size + 1, 1, none⟩ = some (.slice none 0 0) := by rw [hW0]; simp
  have p2 : W0.cell? ⟨w.heap.size + 1, 2, none⟩ = some (.int .i64 0) := by rw [hW0]; simp
  have g0 : W0.frozen? ⟨w.heap.size + 1, 0, none⟩ = false := by rw [hW0]; simp
  have g1 : W0.frozen? ⟨w.heap.size + 1, 1, none⟩ = false := by rw [hW0]; simp
  have g2 : W0.frozen? ⟨w.heap.size + 1, 2, none⟩ = false := by rw [hW0]; simp
  have KL := Lib.hid (fun W (h : Below W0.heap.size W0 W) => limbs_any ad n cap xs W hn hm ho ((hr.below hbl).below h))
  have HB := Lib.hid (h.step hbl)
  have HS0 := Lib.hid h.below.size
  have HNN := Lib.hid hn
  clear hbl h hn ho hr
  go_enter Tryd.func15, Tryd.ntmps15
  go_upto_region 1 with fail
  rw [← hW0]
  clear hW0
  have hz0 : w.heap.size < W0.heap.size := by omega
  have hz1 : w.heap.size + 1 < W0.heap.size := by omega
  go_region_held_law (fun w' => w'.cell? ⟨w.heap.size, 0, none⟩ = some (.bool ng) ∧ w'.cell? ⟨w.heap.size, 1, none⟩ = some (.slice ad n cap) ∧ w'.cell? ⟨w.heap.size, 2, none⟩ = some (.int .i64 E)) (first | exact ⟨x0, x1, x2⟩ | go_keep | (refine ⟨?_, ?_, ?_⟩ <;> (repeat rw [World.cell?_setCell_other (h := by simp)]) <;> first | exact x0 | exact x1 | exact x2))
    (first | (refine step_call2 rfl 29 _ Tryd.func29 (by kernel_rfl) (by kernel_rfl) _ _ rfl #[.slice ad n cap] (by simp [Act.eval, Act.put]) (KL.out _ (below_drew (Below.refl _ _))) ?_; rintro r w8 ⟨v8, rfl, ho8, hb8⟩; have x0 := (hb8.cell (p := ⟨w.heap.size, 0, none⟩) hz0).trans q0; have x1 := (hb8.cell (p := ⟨w.heap.size, 1, none⟩) hz0).trans q1; have x2 := (hb8.cell (p := ⟨w.heap.size, 2, none⟩) hz0).trans q2; have y0 := (hb8.cell (p := ⟨w.heap.size + 1, 0, none⟩) hz1).trans p0; have y1 := (hb8.cell (p := ⟨w.heap.size + 1, 1, none⟩) hz1).trans p1; have y2 := (hb8.cell (p := ⟨w.heap.size + 1, 2, none⟩) hz1).trans p2; have z0 := (hb8.frozen (p := ⟨w.heap.size + 1, 0, none⟩) hz1).trans g0; have z1 := (hb8.frozen (p := ⟨w.heap.size + 1, 1, none⟩) hz1).trans g1; have z2 := (hb8.frozen (p := ⟨w.heap.size + 1, 2, none⟩) hz1).trans g2; obtain ⟨a8, c8, rfl, _⟩ := ho8.view; refine ⟨_, rfl, ?_⟩))
  all_goals (try go_wp2_with fail)
  have hx := (((HB.out.step ((below_drew (Below.refl _ _)).trans hb8)).push (ent_any (L := n) ho8 (by rw [HNN.out]; exact Nat.le_refl _) rfl)).box3 (Nat.le_trans HS0.out (Nat.le_add_right _ 1)) y0 y1 y2 (.bool ng) (.slice a8 xs.length c8) (.int .i64 E))
  have HX := Lib.hid hx
  clear hx ho8 hb8
  exact bodyPost_ret (v := .agg #[.bool ng, .slice a8 xs.length c8, .int .i64 E]) (by simp [results, Tryd.results15, go_sem, y0, y1, y2]) rfl ⟨_, rfl, HX.out⟩
/-- What To answers of any number: of what may not be, nought. -/
def toC (width : Int) (ng : Bool) (xs : List Nat) (M : Nat) (E : Int) : Option Nat := if chkB ng xs E = true then toF width ng M E else toF width false 0 0
theorem toC_zero {width : Int} {ng : Bool} {xs : List Nat} {M : Nat} {E : Int} {e f : Nat} (hlo : layOf width = some (e, f)) (h : chkB ng xs E = false ∨ M = 0) : toC width ng xs M E = some 0 := by
  unfold toC
  have hz : ∀ b E', toF width b 0 E' = some 0 := fun b E' => by unfold toF; rw [hlo]; simp
  by_cases hc : chkB ng xs E = true
  · rw [if_pos hc]
    rcases h with h | h
    · rw [h] at hc; cases hc
    · rw [h]; exact hz _ _
  · rw [if_neg hc]; exact hz _ _
theorem toC_none {width : Int} {ng : Bool} {xs : List Nat} {M : Nat} {E : Int} (hlo : layOf width = none) : toC width ng xs M E = none := by
  unfold toC toF; rw [hlo]; simp
/-- The program's To of any number. -/
theorem to_all {w0 w : World} {l : List Ent} (h : Ctx w0 w l) (hT : DB w) (width : Int) (i : Nat) {ad : Option Addr} {n cap L M : Nat} {xs : List Nat} (hi : l[i]? = some ⟨.slice ad n cap, L, M, xs⟩) (hL : L ≤ 100) (ng : Bool) (E : Int) :
    Calls Tryd.prog 14 #[.int .i64 width, .agg #[.bool ng, .slice ad n cap, .int .i64 E]] w (ToPost w0 l (toC width ng xs M E)) := by
  by_cases hc : chkB ng xs E = true
  · unfold toC; rw [if_pos hc]
    exact to_num h hT width i hi hL ng E hc
  · have hc' : chkB ng xs E = false := by simpa using hc
    cases hlo : layOf width with
    | none => rw [toC_none hlo]; exact to_none h width _ ng E hlo
    | some p =>
      obtain ⟨e, f⟩ := p
      rw [toC_zero hlo (.inl hc')]
      obtain ⟨_, _, hv, q2, q3, q4, q5, q6⟩ := h.get i hi
      simp only [Value.slice.injEq] at hv
      obtain ⟨rfl, hnn, rfl⟩ := hv
      exact to_zero h width hlo ng E ad n cap xs hnn.symm (by omega) (by omega) q4 q5 (.inl hc')

set_option maxHeartbeats 4000000 in
theorem ris_any (neg : Bool) (ad : Option Addr) (n cap : Nat) (xs : List Nat) (e : Int) (w : World) (hn : xs.length = n) (hcap : n ≤ cap) (hm : n ≤ 100000000) (ho : Okl xs) (hr : Rd w ad xs) :
    ∃ ng2 v2 E2, (v2 = .slice ad n cap ∨ v2 = .slice none 0 0) ∧ (chkB neg xs e = true → ng2 = neg ∧ v2 = .slice ad n cap ∧ E2 = e) ∧ (chkB neg xs e = false → v2 = .slice none 0 0) ∧
      Calls Tryd.prog 50 #[.agg #[.bool neg, .slice ad n cap, .int .i64 e]] w (NumBelow ng2 v2 E2 w) := by
  by_cases hc : chkB neg xs e = true
  · exact ⟨neg, _, e, .inl rfl, fun _ => ⟨rfl, rfl, rfl⟩, fun h => absurd (hc.symm.trans h) (by decide), ris_yes neg ad n cap xs e w hn hcap hm ho hr hc⟩
  · have hc' : chkB neg xs e = false := by simpa using hc
    exact ⟨false, _, 0, .inr rfl, fun h => absurd h hc, fun _ => rfl, ris_no neg ad n cap xs e w hn hcap hm ho hr hc'⟩

set_option maxHeartbeats 4000000 in
theorem rto_none {w0 w : World} {l : List Ent} (h : Ctx w0 w l) (width : Int) (hlo : layOf width = none) (i : Nat) {ad : Option Addr} {n cap L M : Nat} {xs : List Nat} (hi : l[i]? = some ⟨.slice ad n cap, L, M, xs⟩) (hL : L ≤ 2000) (ng : Bool) (E : Int) :
    Calls Tryd.prog 16 #[.int .i64 width, .agg #[.bool ng, .slice ad n cap, .int .i64 E]] w (ToPost w0 l none) := by
  have KP := Lib.hid (fun W => rparts_any width W)
  rw [show pE width = 0 from by unfold pE; rw [hlo]] at KP
  have hb1 := below_box w #[.bool ng, .slice ad n cap, .int .i64 E] 25
  have hC1 := h.step hb1
  obtain ⟨_, _, hv, q2, q3, q4, q5, q6⟩ := hC1.get i hi
  simp only [Value.slice.injEq] at hv
  obtain ⟨rfl, hnn, rfl⟩ := hv
  obtain ⟨ng2, v2, E2, hv2, _, _, KI⟩ := ris_any ng ad n cap xs E (w.alloc (.cells #[.bool ng, .slice ad n cap, .int .i64 E] 25)) hnn.symm (by omega) (by omega) q4 q5
  obtain ⟨ad2, n2, cap2, rfl⟩ : ∃ ad2 n2 cap2, v2 = .slice ad2 n2 cap2 := by rcases hv2 with rfl | rfl <;> exact ⟨_, _, _, rfl⟩
  have KIH := Lib.hid KI
  have B1 := Lib.hid (bx_new w ng (.slice ad n cap) E)
  have HC1 := Lib.hid hC1
  clear h hb1 hC1 hi hv2 KI q2 q3 q4 q5 q6 hnn
  obtain ⟨x1, x2, x3, x4⟩ := B1.out
  go_enter Tryd.func16, Tryd.ntmps16
  go_wp2_with fail
  refine (KP.out _).mono ?_
  rintro r w' ⟨rfl, rfl⟩
  go_wp2_with fail
  refine KIH.out.mono ?_
  rintro r w2 ⟨rfl, hb2⟩
  have hbx := below_box w2 #[.bool ng2, .slice ad2 n2 cap2, .int .i64 E2] 25
  have HC2 := Lib.hid ((HC1.out.step hb2).step hbx)
  clear hb2 hbx x1 x2 x3 x4 B1 HC1 KIH KP
  go_wp2_with fail
  go_ret2
  exact ⟨rfl, HC2.out⟩
set_option maxHeartbeats 8000000 in
theorem rto_zero {w0 w : World} {l : List Ent} (h : Ctx w0 w l) (width : Int) {e f : Nat} (hlo : layOf width = some (e, f)) (i : Nat) {ad : Option Addr} {n cap L M : Nat} {xs : List Nat} (hi : l[i]? = some ⟨.slice ad n cap, L, M, xs⟩) (hL : L ≤ 2000) (ng : Bool) (E : Int) (hbad : chkB ng xs E = false ∨ M = 0) :
    Calls Tryd.prog 16 #[.int .i64 width, .agg #[.bool ng, .slice ad n cap, .int .i64 E]] w (ToPost w0 l (some 0)) := by
  have KP := Lib.hid (fun W => rparts_any width W)
  have hb1 := below_box w #[.bool ng, .slice ad n cap, .int .i64 E] 25
  have hC1 := h.step hb1
  obtain ⟨_, _, hv, q2, q3, q4, q5, q6⟩ := hC1.get i hi
  simp only [Value.slice.injEq] at hv
  obtain ⟨rfl, hnn, rfl⟩ := hv
  obtain ⟨ng2, v2, E2, hv2, k1, k2, KI⟩ := ris_any ng ad n cap xs E (w.alloc (.cells #[.bool ng, .slice ad n cap, .int .i64 E] 25)) hnn.symm (by omega) (by omega) q4 q5
  obtain ⟨ad2, cap2, rfl⟩ : ∃ ad2 cap2, v2 = .slice ad2 0 cap2 := by
    by_cases hc : chkB ng xs E = true
    · obtain ⟨_, rfl, _⟩ := k1 hc
      have hM : M = 0 := hbad.resolve_left (fun h => absurd (hc.symm.trans h) (by decide))
      have hx : xs = [] := by
        have := chkB_limbs q4 hc
        rw [q6, hM, limbs_zero] at this
        exact this.symm
      have : n = 0 := by rw [hnn, hx]; rfl
      subst this
      exact ⟨_, _, rfl⟩
    · exact ⟨_, _, k2 (by simpa using hc)⟩
  have KIH := Lib.hid KI
  have B1 := Lib.hid (bx_new w ng (.slice ad n cap) E)
  have HC1 := Lib.hid hC1
  clear h hb1 hC1 hi hv2 KI q2 q3 q4 q5 q6 hnn k1 k2 hbad
  obtain ⟨x1, x2, x3, x4⟩ := B1.out
  rcases lay_w hlo with ⟨rfl, rfl, rfl⟩ | ⟨rfl, rfl, rfl⟩ | ⟨rfl, rfl, rfl⟩
  · rw [show pE 16 = 5 from rfl, show pF 16 = 10 from rfl] at KP
    go_enter Tryd.func16, Tryd.ntmps16
    go_wp2_with fail
    refine (KP.out _).mono ?_
    rintro r w' ⟨rfl, rfl⟩
    go_wp2_with fail
    refine KIH.out.mono ?_
    rintro r w2 ⟨rfl, hb2⟩
    have hbx := below_box w2 #[.bool ng2, .slice ad2 0 cap2, .int .i64 E2] 25
    have HC2 := Lib.hid ((HC1.out.step hb2).step hbx)
    have C2 := Lib.hid (bx_new w2 ng2 (.slice ad2 0 cap2) E2)
    clear hb2 hbx x1 x2 x3 x4 B1 HC1 KIH KP
    obtain ⟨y1, y2, y3, y4⟩ := C2.out
    go_wp2_with fail
    go_ret2
    exact ⟨rfl, HC2.out⟩
  · rw [show pE 32 = 8 from rfl, show pF 32 = 23 from rfl] at KP
    go_enter Tryd.func16, Tryd.ntmps16
    go_wp2_with fail
    refine (KP.out _).mono ?_
    rintro r w' ⟨rfl, rfl⟩
    go_wp2_with fail
    refine KIH.out.mono ?_
    rintro r w2 ⟨rfl, hb2⟩
    have hbx := below_box w2 #[.bool ng2, .slice ad2 0 cap2, .int .i64 E2] 25
    have HC2 := Lib.hid ((HC1.out.step hb2).step hbx)
    have C2 := Lib.hid (bx_new w2 ng2 (.slice ad2 0 cap2) E2)
    clear hb2 hbx x1 x2 x3 x4 B1 HC1 KIH KP
    obtain ⟨y1, y2, y3, y4⟩ := C2.out
    go_wp2_with fail
    go_ret2
    exact ⟨rfl, HC2.out⟩
  · rw [show pE 64 = 11 from rfl, show pF 64 = 52 from rfl] at KP
    go_enter Tryd.func16, Tryd.ntmps16
    go_wp2_with fail
    refine (KP.out _).mono ?_
    rintro r w' ⟨rfl, rfl⟩
    go_wp2_with fail
    refine KIH.out.mono ?_
    rintro r w2 ⟨rfl, hb2⟩
    have hbx := below_box w2 #[.bool ng2, .slice ad2 0 cap2, .int .i64 E2] 25
    have HC2 := Lib.hid ((HC1.out.step hb2).step hbx)
    have C2 := Lib.hid (bx_new w2 ng2 (.slice ad2 0 cap2) E2)
    clear hb2 hbx x1 x2 x3 x4 B1 HC1 KIH KP
    obtain ⟨y1, y2, y3, y4⟩ := C2.out
    go_wp2_with fail
    go_ret2
    exact ⟨rfl, HC2.out⟩

theorem rto_all {w0 w : World} {l : List Ent} (h : Ctx w0 w l) (width : Int) (i : Nat) {ad : Option Addr} {n cap L M : Nat} {xs : List Nat} (hi : l[i]? = some ⟨.slice ad n cap, L, M, xs⟩) (hL : L ≤ 2000) (ng : Bool) (E : Int) :
    Calls Tryd.prog 16 #[.int .i64 width, .agg #[.bool ng, .slice ad n cap, .int .i64 E]] w (ToPost w0 l (toC width ng xs M E)) := by
  cases hlo : layOf width with
  | none => rw [toC_none hlo]; exact rto_none h width hlo i hi hL ng E
  | some p =>
    obtain ⟨e, f⟩ := p
    by_cases hb : chkB ng xs E = false ∨ M = 0
    · rw [toC_zero hlo hb]; exact rto_zero h width hlo i hi hL ng E hb
    · have hc : chkB ng xs E = true := by
        cases h1 : chkB ng xs E
        · exact absurd (.inl h1) hb
        · rfl
      have : toC width ng xs M E = toF width ng M E := by unfold toC; rw [if_pos hc]
      rw [this]
      exact rto_num h width hlo i hi hL ng E hc (fun h0 => hb (.inr h0))

/-- What Shortest answers, by what To answers. -/
def shT (T : Int → Option Nat) : Value := match T 16 with
  | some y => .tuple #[.int .i64 16, .int .u64 (y : Int), .bool true]
  | none => match T 32 with
    | some y => .tuple #[.int .i64 32, .int .u64 (y : Int), .bool true]
    | none => match T 64 with
      | some y => .tuple #[.int .i64 64, .int .u64 (y : Int), .bool true]
      | none => .tuple #[.int .i64 0, .int .u64 0, .bool false]
def SRRel (w0 w : World) (l : List Ent) (G : Nat) (ng : Bool) (v : Value) (E : Int) (T : Int → Option Nat) (i : Value) (wr : World) : Prop :=
  ∃ k : Nat, k ≤ 3 ∧ i = .int .i64 (k : Int) ∧ (0 < k → T 16 = none) ∧ (1 < k → T 32 = none) ∧ (2 < k → T 64 = none) ∧ Ctx w0 wr l ∧ Below w.heap.size w wr ∧ Bx wr G ng v E ∧
    wr.cell? ⟨G + 1, 0, none⟩ = some (.int .i64 16) ∧ wr.cell? ⟨G + 1, 1, none⟩ = some (.int .i64 32) ∧ wr.cell? ⟨G + 1, 2, none⟩ = some (.int .i64 64) ∧ G + 1 < wr.heap.size
set_option maxHeartbeats 8000000 in
theorem rshortest_core {w0 w : World} {l : List Ent} (h : Ctx w0 w l) (ng : Bool) (v : Value) (E : Int) (T : Int → Option Nat)
    (KT : ∀ W (width : Int), Below w.heap.size w W → Calls Tryd.prog 16 #[.int .i64 width, .agg #[.bool ng, v, .int .i64 E]] W fun r w' => r = .returned (toA (T width)) ∧ Below W.heap.size W w') :
    Calls Tryd.prog 18 #[.agg #[.bool ng, v, .int .i64 E]] w fun r w' => r = .returned (shT T) ∧ Ctx w0 w' l := by
  have KTH := Lib.hid KT
  have hb1 := below_box w #[.bool ng, v, .int .i64 E] 25
  have hb2 := below_on hb1 (below_box (w.alloc (.cells #[.bool ng, v, .int .i64 E] 25)) #[.int .i64 16, .int .i64 32, .int .i64 64] 3)
  have B1 := Lib.hid ((bx_new w ng v E).step (below_box (w.alloc (.cells #[.bool ng, v, .int .i64 E] 25)) #[.int .i64 16, .int .i64 32, .int .i64 64] 3))
  have HW := Lib.hid (h.step hb2)
  have HBX := Lib.hid hb2
  clear KT h hb1 hb2
  go_enter Tryd.func18, Tryd.ntmps18
  go_wp2_with fail
  have z0 : ((w.alloc (.cells #[.bool ng, v, .int .i64 E] 25)).alloc (.cells #[.int .i64 16, .int .i64 32, .int .i64 64] 3)).cell? ⟨w.heap.size + 1, 0, none⟩ = some (.int .i64 16) := by simp
  have z1 : ((w.alloc (.cells #[.bool ng, v, .int .i64 E] 25)).alloc (.cells #[.int .i64 16, .int .i64 32, .int .i64 64] 3)).cell? ⟨w.heap.size + 1, 1, none⟩ = some (.int .i64 32) := by simp
  have z2 : ((w.alloc (.cells #[.bool ng, v, .int .i64 E] 25)).alloc (.cells #[.int .i64 16, .int .i64 32, .int .i64 64] 3)).cell? ⟨w.heap.size + 1, 2, none⟩ = some (.int .i64 64) := by simp
  have hzW : w.heap.size + 1 < ((w.alloc (.cells #[.bool ng, v, .int .i64 E] 25)).alloc (.cells #[.int .i64 16, .int .i64 32, .int .i64 64] 3)).heap.size := by simp
  generalize (w.alloc (.cells #[.bool ng, v, .int .i64 E] 25)).alloc (.cells #[.int .i64 16, .int .i64 32, .int .i64 64] 3) = W at *
  go_loopw [11] (fun i wr => SRRel w0 w l w.heap.size ng v E T i wr) (fun i _ => (200 - intOf i).toNat)
  case atStart => exact ⟨0, by omega, rfl, fun h => absurd h (by omega), fun h => absurd h (by omega), fun h => absurd h (by omega), HW.out, HBX.out, B1.out, z0, z1, z2, hzW⟩
  case round =>
    clear HBX HW B1 z0 z1 z2 hzW
    obtain ⟨k, hk, rfl, h16, h32, h64, hctx, hbw, hbx, d0, d1, d2, hzr⟩ := hrel
    replace hctx := Lib.hid hctx
    replace hbw := Lib.hid hbw
    replace hbx := Lib.hid hbx
    obtain ⟨x1, x2, x3, x4⟩ := hbx.out
    have hk4 : k = 0 ∨ k = 1 ∨ k = 2 ∨ k = 3 := by omega
    rcases hk4 with rfl | rfl | rfl | rfl
    · cases hT : T 16 with
      | none =>
        have KT2 := Lib.hid (KTH.out wr 16 hbw.out)
        rw [hT] at KT2
        unfold toA at KT2
        have HT := Lib.hid hT
        go_wp2_with fail
        refine KT2.out.mono ?_
        rintro r w2 ⟨rfl, hb2⟩
        have HC2 := Lib.hid (hctx.out.step hb2)
        have HB2 := Lib.hid (below_on hbw.out hb2)
        have HX2 := Lib.hid (hbx.out.step hb2)
        have e0 := (hb2.cell (p := ⟨w.heap.size + 1, 0, none⟩) hzr).trans d0
        have e1 := (hb2.cell (p := ⟨w.heap.size + 1, 1, none⟩) hzr).trans d1
        have e2 := (hb2.cell (p := ⟨w.heap.size + 1, 2, none⟩) hzr).trans d2
        have e3 := Nat.lt_of_lt_of_le hzr hb2.size
        clear hb2 d0 d1 d2
        go_wp2_with fail
        go_roundw
        case rel => exact ⟨1, by omega, rfl, fun _ => hT, fun h => absurd h (by omega), fun h => absurd h (by omega), HC2.out, HB2.out, HX2.out, e0, e1, e2, e3⟩
        case measure => simp [intOf]
      | some y =>
        have KT2 := Lib.hid (KTH.out wr 16 hbw.out)
        rw [hT] at KT2
        unfold toA at KT2
        have HA : Hid (shT T = .tuple #[.int .i64 16, .int .u64 (y : Int), .bool true]) := by show _ = _; unfold shT; rw [hT]
        go_wp2_with fail
        refine KT2.out.mono ?_
        rintro r w2 ⟨rfl, hb2⟩
        have HC2 := Lib.hid (hctx.out.step hb2)
        clear hb2 d0 d1 d2 x1 x2 x3 x4
        go_wp2_with fail
        go_ret3
        exact ⟨by rw [HA.out]; rfl, HC2.out⟩
    · cases hT : T 32 with
      | none =>
        have KT2 := Lib.hid (KTH.out wr 32 hbw.out)
        rw [hT] at KT2
        unfold toA at KT2
        have HT := Lib.hid hT
        go_wp2_with fail
        refine KT2.out.mono ?_
        rintro r w2 ⟨rfl, hb2⟩
        have HC2 := Lib.hid (hctx.out.step hb2)
        have HB2 := Lib.hid (below_on hbw.out hb2)
        have HX2 := Lib.hid (hbx.out.step hb2)
        have e0 := (hb2.cell (p := ⟨w.heap.size + 1, 0, none⟩) hzr).trans d0
        have e1 := (hb2.cell (p := ⟨w.heap.size + 1, 1, none⟩) hzr).trans d1
        have e2 := (hb2.cell (p := ⟨w.heap.size + 1, 2, none⟩) hzr).trans d2
        have e3 := Nat.lt_of_lt_of_le hzr hb2.size
        clear hb2 d0 d1 d2
        go_wp2_with fail
        go_roundw
        case rel => exact ⟨2, by omega, rfl, fun _ => h16 (by omega), fun _ => hT, fun h => absurd h (by omega), HC2.out, HB2.out, HX2.out, e0, e1, e2, e3⟩
        case measure => simp [intOf]
      | some y =>
        have KT2 := Lib.hid (KTH.out wr 32 hbw.out)
        rw [hT] at KT2
        unfold toA at KT2
        have HA : Hid (shT T = .tuple #[.int .i64 32, .int .u64 (y : Int), .bool true]) := by show _ = _; unfold shT; rw [h16 (by omega), hT]
        go_wp2_with fail
        refine KT2.out.mono ?_
        rintro r w2 ⟨rfl, hb2⟩
        have HC2 := Lib.hid (hctx.out.step hb2)
        clear hb2 d0 d1 d2 x1 x2 x3 x4
        go_wp2_with fail
        go_ret3
        exact ⟨by rw [HA.out]; rfl, HC2.out⟩
    · cases hT : T 64 with
      | none =>
        have KT2 := Lib.hid (KTH.out wr 64 hbw.out)
        rw [hT] at KT2
        unfold toA at KT2
        have HT := Lib.hid hT
        go_wp2_with fail
        refine KT2.out.mono ?_
        rintro r w2 ⟨rfl, hb2⟩
        have HC2 := Lib.hid (hctx.out.step hb2)
        have HB2 := Lib.hid (below_on hbw.out hb2)
        have HX2 := Lib.hid (hbx.out.step hb2)
        have e0 := (hb2.cell (p := ⟨w.heap.size + 1, 0, none⟩) hzr).trans d0
        have e1 := (hb2.cell (p := ⟨w.heap.size + 1, 1, none⟩) hzr).trans d1
        have e2 := (hb2.cell (p := ⟨w.heap.size + 1, 2, none⟩) hzr).trans d2
        have e3 := Nat.lt_of_lt_of_le hzr hb2.size
        clear hb2 d0 d1 d2
        go_wp2_with fail
        go_roundw
        case rel => exact ⟨3, by omega, rfl, fun _ => h16 (by omega), fun _ => h32 (by omega), fun _ => hT, HC2.out, HB2.out, HX2.out, e0, e1, e2, e3⟩
        case measure => simp [intOf]
      | some y =>
        have KT2 := Lib.hid (KTH.out wr 64 hbw.out)
        rw [hT] at KT2
        unfold toA at KT2
        have HA : Hid (shT T = .tuple #[.int .i64 64, .int .u64 (y : Int), .bool true]) := by show _ = _; unfold shT; rw [h16 (by omega), h32 (by omega), hT]
        go_wp2_with fail
        refine KT2.out.mono ?_
        rintro r w2 ⟨rfl, hb2⟩
        have HC2 := Lib.hid (hctx.out.step hb2)
        clear hb2 d0 d1 d2 x1 x2 x3 x4
        go_wp2_with fail
        go_ret3
        exact ⟨by rw [HA.out]; rfl, HC2.out⟩
    · have HA : Hid (shT T = .tuple #[.int .i64 0, .int .u64 0, .bool false]) := by show _ = _; unfold shT; rw [h16 (by omega), h32 (by omega), h64 (by omega)]
      go_wp2_with fail
      go_ret3
      exact ⟨by rw [HA.out]; rfl, hctx.out⟩
theorem rshortest_all {w0 w : World} {l : List Ent} (h : Ctx w0 w l) (i : Nat) {ad : Option Addr} {n cap L M : Nat} {xs : List Nat} (hi : l[i]? = some ⟨.slice ad n cap, L, M, xs⟩) (hL : L ≤ 2000) (ng : Bool) (E : Int) :
    Calls Tryd.prog 18 #[.agg #[.bool ng, .slice ad n cap, .int .i64 E]] w fun r w' => r = .returned (shT fun width => toC width ng xs M E) ∧ Ctx w0 w' l :=
  rshortest_core h ng _ E _ (fun W width hW => (rto_all (h.step hW).again width i hi hL ng E).mono fun _ _ ⟨h1, h2⟩ => ⟨h1, h2.below⟩)
theorem shortest_all {w0 w : World} {l : List Ent} (h : Ctx w0 w l) (hT : DB w) (i : Nat) {ad : Option Addr} {n cap L M : Nat} {xs : List Nat} (hi : l[i]? = some ⟨.slice ad n cap, L, M, xs⟩) (hL : L ≤ 100) (ng : Bool) (E : Int) :
    Calls Tryd.prog 17 #[.agg #[.bool ng, .slice ad n cap, .int .i64 E]] w fun r w' => r = .returned (shT fun width => toC width ng xs M E) ∧ Ctx w0 w' l :=
  shortest_core h ng _ E (fun width => toC width ng xs M E) (fun W width hW => (to_all (h.step hW).again (hT.below hW) width i hi hL ng E).mono fun _ _ ⟨h1, h2⟩ => ⟨h1, h2.below⟩) _ rfl
end Go.Proofs.YtokppjfaihkkcaaDoor
