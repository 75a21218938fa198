/- The walks of the laws of layer 2's own awake, few; of SameNum at two that are the same. What the laws of layer 2 share: boxes of numbers, SameNum, few. -/
import Derived.Test.YtogapgjilbcbfaaGreatDoorC7
import Derived.Test.YtogapgjilbcbfaaGreatDoorC1
namespace Go.Proofs.YtogapgjilbcbfaaGreatDoor
open Go.RowKit Go.Sort
set_option linter.unusedVariables false
set_option linter.unusedSimpArgs false

theorem limbs_small {x : Nat} (h0 : x ≠ 0) (h : x < B32) : limbs x = [x] := by
  rw [limbs_pos h0, Nat.mod_eq_of_lt h, Nat.div_eq_of_lt h, limbs_zero]
theorem awake_parse : parseN [49, 46, 53, 48, 101, 51] = .inl (false, 15, 2) := by decide +kernel
theorem awake_text : numTxt false 15 2 = [49, 53, 48, 48] := by decide +kernel
theorem awake_chk : chkB false [15] 2 = true := by decide +kernel

/-- An entry of the context as a number. -/
theorem Ctx.num {w0 w : World} {l : List Ent} (h : Ctx w0 w l) (i : Nat) {neg : Bool} {ad : Option Addr} {n cap L N : Nat} {xs : List Nat} {e : Int} (hi : l[i]? = some ⟨.slice ad n cap, L, N, xs⟩) (hc : chkB neg xs e = true) : NumOk w neg ad n cap xs e := by
  obtain ⟨ad', cap', h1, h2, h3, h4, h5, h6⟩ := h.get i hi
  simp only [Value.slice.injEq] at h1
  obtain ⟨rfl, rfl, rfl⟩ := h1
  exact ⟨rfl, h2, h4, h5, hc⟩
theorem numText_ok {w : World} {neg : Bool} {ad : Option Addr} {n cap : Nat} {xs : List Nat} {e : Int} (h : NumOk w neg ad n cap xs e) (ht : TB w) :
    Calls Tryz.prog 20 #[.agg #[.bool neg, .slice ad n cap, .int .i64 e]] w (TxtBelow (numTxt neg (val xs) e) w) :=
  numText_core _ neg ad n cap xs e w h ht neg _ e rfl (fun W hb => h.same W hb)
theorem numCmp_ok {w : World} {na nb : Bool} {ad ad' : Option Addr} {n cap n' cap' : Nat} {xs ys : List Nat} {e f : Int} (ha : NumOk w na ad n cap xs e) (hb : NumOk w nb ad' n' cap' ys f) :
    Calls Tryz.prog 16 #[.agg #[.bool na, .slice ad n cap, .int .i64 e], .agg #[.bool nb, .slice ad' n' cap', .int .i64 f]] w (IntBelow (cmpZ (valZ na (val xs) e) (valZ nb (val ys) f)) w) :=
  numCmp_core _ _ _ _ rfl rfl na ad n cap xs e nb ad' n' cap' ys f w ha hb na true _ e nb _ f rfl rfl (fun W hW => ha.same W hW) (fun W hW => hb.same W hW)
theorem numSame_ok {w : World} {na nb : Bool} {ad ad' : Option Addr} {n cap n' cap' : Nat} {xs ys : List Nat} {e f : Int} (ha : NumOk w na ad n cap xs e) (hb : NumOk w nb ad' n' cap' ys f) :
    Calls Tryz.prog 18 #[.agg #[.bool na, .slice ad n cap, .int .i64 e], .agg #[.bool nb, .slice ad' n' cap', .int .i64 f]] w (BoolBelow (decide ((na = nb ∧ e = f) ∧ xs = ys)) w) :=
  numSame_core _ _ _ _ rfl rfl na ad n cap xs e nb ad' n' cap' ys f w ha hb na _ e nb _ f rfl rfl (fun W hW => ha.same W hW) (fun W hW => hb.same W hW)

set_option maxHeartbeats 4000000 in
set_option maxRecDepth 100000 in
theorem awake2_any (w : World) (ht : TB w) : Calls Tryz.prog 5 #[] w (BoolBelow true w) := by
  have K := numParse_any (Ctx.begin w) [49, 46, 53, 48, 101, 51] (by intro x hx; simp at hx; omega)
  rw [awake_parse] at K
  have KP := Lib.hid K; clear K
  have HT := Lib.hid ht; clear ht
  go_enter Tryz.func5, Tryz.ntmps5
  go_wp2_with fail
  rw [show (⟨#[49, 46, 53, 48, 101, 51]⟩ : ByteArray) = txt [49, 46, 53, 48, 101, 51] from rfl]
  refine KP.out.mono ?_
  rintro r w1 ⟨v, rfl, h1⟩
  rw [limbs_small (by decide) (by decide)] at h1
  obtain ⟨ad, cap, rfl, _, _, _, hrd, _⟩ := h1.get 0 rfl
  have h2 := h1.step ((Below.refl _ _).alloc (Nat.le_refl _) (.cells #[.bool false, .slice ad 1 cap, .int .i64 2] 24))
  have hn := h2.num 0 (neg := false) (e := 2) rfl awake_chk
  have KT := numText_ok hn (HT.out.below h2.below)
  rw [show val [15] = 15 from rfl, awake_text] at KT
  have KTH := Lib.hid KT; clear KT hn
  have hrd2 := hrd.below ((Below.refl _ _).alloc (Nat.le_refl _) (.cells #[.bool false, .slice ad 1 cap, .int .i64 2] 24))
  obtain ⟨b, o, rfl, _, hc⟩ := hrd2 0 (by simp)
  rw [Nat.add_zero] at hc
  replace hc : (w1.alloc (.cells #[.bool false, .slice (some ⟨b, o, none⟩) 1 cap, .int .i64 2] 24)).cell? ⟨b, o, none⟩ = some (.int .u32 15) := hc
  have HB := Lib.hid h2.below
  clear h1 h2 hrd hrd2
  rw [show ([15] : List Nat).length = 1 from rfl] at *
  go_wp2_with fail
  refine KTH.out.mono ?_
  rintro r w2 ⟨rfl, hb2⟩
  have HB2 := Lib.hid hb2; clear hb2
  rw [show txt [49, 53, 48, 48] = ⟨#[49, 53, 48, 48]⟩ from rfl]
  go_wp2
  go_ret
  exact BoolBelow.mk rfl (below_on HB.out HB2.out)
end Go.Proofs.YtogapgjilbcbfaaGreatDoor
namespace Go.Proofs.YtogapgjilbcbfaaGreatDoor
open Go.RowKit Go.Sort
set_option linter.unusedVariables false
set_option linter.unusedSimpArgs false

/-- A number's box. -/
structure Bx (w : World) (g : Nat) (neg : Bool) (v : Value) (e : Int) : Prop where
  lt : g < w.heap.size
  c0 : w.cell? ⟨g, 0, none⟩ = some (.bool neg)
  c1 : w.cell? ⟨g, 1, none⟩ = some v
  c2 : w.cell? ⟨g, 2, none⟩ = some (.int .i64 e)
theorem Bx.step {w w' : World} {g : Nat} {neg : Bool} {v : Value} {e : Int} (h : Bx w g neg v e) (hb : Below w.heap.size w w') : Bx w' g neg v e :=
  ⟨Nat.lt_of_lt_of_le h.lt hb.size, (hb.cell (p := ⟨g, 0, none⟩) h.lt).trans h.c0, (hb.cell (p := ⟨g, 1, none⟩) h.lt).trans h.c1, (hb.cell (p := ⟨g, 2, none⟩) h.lt).trans h.c2⟩
theorem bx_new (w : World) (neg : Bool) (v : Value) (e : Int) : Bx (w.alloc (.cells #[.bool neg, v, .int .i64 e] 24)) w.heap.size neg v e := ⟨by simp, by simp, by simp, by simp⟩
theorem Ctx.on {w0 w w' : World} {l l' : List Ent} (hc : Ctx w w' l') (h : Ctx w0 w l) : Ctx w0 w' l' := ⟨below_on h.below hc.below, hc.all⟩
theorem below_box (w : World) (a : Array Value) (t : TypeId) : Below w.heap.size w (w.alloc (.cells a t)) := (Below.refl _ _).alloc (Nat.le_refl _) _
theorem Ctx.lits {w0 w : World} {l : List Ent} (h : Ctx w0 w l) {xs : List Nat} (hx : Okl xs) {N : Nat} (hN : val xs = N) :
    Ctx w0 (w.alloc (.cells (xs.map lv).toArray 42)) (⟨.slice (some ⟨w.heap.size, 0, none⟩) xs.length xs.length, xs.length, N, xs⟩ :: l) :=
  (h.step ((Below.refl _ _).alloc (Nat.le_refl _) _)).push ⟨_, _, rfl, Nat.le_refl _, Nat.le_refl _, hx, (alloc_blk w xs).rd_all, hN⟩

theorem okb_lit {l : List Nat} (h : ∀ x ∈ l, x < 256) : Okb l := h
theorem okb_app {a b : List Nat} (h : Okb a) (k : Okb b) : Okb (a ++ b) := by
  intro x hx; rcases List.mem_append.1 hx with h1 | h1
  · exact h x h1
  · exact k x h1
theorem okb_size (d : List Nat) (hd : Okd d) (e : Int) : Okb (sizeTxt d e) := by
  unfold sizeTxt expTxt
  have hb := hd.b
  have h1 : ∀ k, Okb (d.take k) := fun k x hx => hb x (List.mem_of_mem_take hx)
  have h2 : ∀ k, Okb (d.drop k) := fun k x hx => hb x (List.mem_of_mem_drop hx)
  have h3 : ∀ k, Okb (List.replicate k 48) := fun k => (zeros_ok k).b
  have h4 : Okb [46] := by intro x hx; simp at hx; omega
  have h5 : Okb [48, 46] := by intro x hx; simp at hx; omega
  have h6 : ∀ c, c < 256 → Okb [101, c] := fun c hc x hx => by simp at hx; omega
  repeat' split
  · exact okb_app (h1 1) (okb_app (okb_app h4 (h2 1)) (okb_app (h6 _ (by omega)) (dec_ok _).b))
  · exact okb_app (h1 1) (okb_app (okb_app h4 (h2 1)) (okb_app (h6 _ (by omega)) (dec_ok _).b))
  · exact okb_app (h1 1) (okb_app Okb.nil (okb_app (h6 _ (by omega)) (dec_ok _).b))
  · exact okb_app (h1 1) (okb_app Okb.nil (okb_app (h6 _ (by omega)) (dec_ok _).b))
  · exact okb_app (okb_app h5 (h3 _)) hb
  · exact okb_app (okb_app (h1 _) h4) (h2 _)
  · exact okb_app hb (h3 _)
theorem okb_num (neg : Bool) (N : Nat) (e : Int) : Okb (numTxt neg N e) := by
  unfold numTxt
  split
  · intro x hx; simp at hx; omega
  · refine okb_app ?_ (okb_size _ (dec_ok N) e)
    cases neg
    · exact Okb.nil
    · intro x hx; simp at hx; omega
theorem dec_7 : (dec 7).length ≤ 900 := by rw [dec_small (by decide)]; decide
/-- A new list, behind a box. -/
theorem Ctx.lits2 {w0 w : World} {o : Obj} {l : List Ent} (h : Ctx w0 (w.alloc o) l) {xs : List Nat} (hx : Okl xs) {N : Nat} (hN : val xs = N) (n : Nat) (hn : xs.length = n) (cs : Array Value) (hcs : cs = (xs.map lv).toArray) :
    Ctx w0 ((w.alloc o).alloc (.cells cs 42)) (⟨.slice (some ⟨w.heap.size + 1, 0, none⟩) n n, n, N, xs⟩ :: l) := by
  have h2 := h.lits hx hN
  rw [show (w.alloc o).heap.size = w.heap.size + 1 by simp] at h2
  subst hn hcs
  exact h2
theorem Ctx.lits1 {w0 w : World} {l : List Ent} (h : Ctx w0 w l) {xs : List Nat} (hx : Okl xs) {N : Nat} (hN : val xs = N) (n : Nat) (hn : xs.length = n) (cs : Array Value) (hcs : cs = (xs.map lv).toArray) :
    Ctx w0 (w.alloc (.cells cs 42)) (⟨.slice (some ⟨w.heap.size, 0, none⟩) n n, n, N, xs⟩ :: l) := by
  have h2 := h.lits hx hN
  subst hn hcs
  exact h2
theorem make_yes2 {w0 w : World} {l : List Ent} {v : Value} {L N : Nat} {xs : List Nat} (h : Ctx w0 w l) (i : Nat) (hi : l[i]? = some ⟨v, L, N, xs⟩) (hL : L ≤ 1000000) (neg : Bool) (e : Int)
    (m k : Nat) (hN : N = m * tenN k) (hm : m % 10 ≠ 0) (hlen : (limbs m).length ≤ 90) (x : Int) (hx : e + (k : Int) = x) (hlo : -1200 ≤ x) (hhi : x ≤ 1200) :
    Calls Tryz.prog 7 #[.bool neg, v, .int .i64 e] w (MadePost w0 l L neg m x true) := by
  subst hx; exact make_yes h i hi hL neg e m k hN hm hlen hlo hhi

set_option maxHeartbeats 2000000 in
theorem sameNum_any (neg : Bool) (ad : Option Addr) (n cap : Nat) (xs : List Nat) (e : Int) (ad' : Option Addr) (cap' : Nat) (w : World) (hn : xs.length = n) (hcap : n ≤ cap) (hcap' : n ≤ cap') (hm : n ≤ 1000000000) (hr : Rd w ad xs) (hr' : Rd w ad' xs) :
    Calls Tryz.prog 12 #[.agg #[.bool neg, .slice ad n cap, .int .i64 e], .agg #[.bool neg, .slice ad' n cap', .int .i64 e]] w (BoolBelow true w) := by
  have hbl : Below w.heap.size w ((w.alloc (.cells #[.bool neg, .slice ad n cap, .int .i64 e] 24)).alloc (.cells #[.bool neg, .slice ad' n cap', .int .i64 e] 24)) := ((Below.refl _ _).alloc (Nat.le_refl _) _).alloc (by simp) _
  have HB := Lib.hid hbl
  have K := Lib.hid (same_any ad n cap xs ad' cap' _ hn hcap hcap' hm (hr.below hbl) (hr'.below hbl))
  clear hbl hn
  have ht : (neg == neg) = true := by simp
  have hte : (e == e) = true := by simp
  go_enter Tryz.func12, Tryz.ntmps12
  go_wp2_with fail
  refine K.out.mono ?_
  rintro r w' ⟨rfl, q, rfl⟩
  go_wp2
  go_ret
  exact BoolBelow.mk rfl (below_drewN' HB.out q)

theorem few2_any (na nb : Bool) (v v' : Option Addr) (n cap n' cap' : Nat) (e f : Int) (w : World) :
    Calls Tryz.prog 4 #[.agg #[.bool na, .slice v n cap, .int .i64 e], .agg #[.bool nb, .slice v' n' cap', .int .i64 f]] w (BoolBelow (decide (n ≤ 30 ∧ n' ≤ 30)) w) := by
  have hbl : Below w.heap.size w ((w.alloc (.cells #[.bool na, .slice v n cap, .int .i64 e] 24)).alloc (.cells #[.bool nb, .slice v' n' cap', .int .i64 f] 24)) := ((Below.refl _ _).alloc (Nat.le_refl _) _).alloc (by simp) _
  have HB := Lib.hid hbl
  clear hbl
  by_cases h1 : n ≤ 30
  · by_cases h2 : n' ≤ 30
    · have HD : Hid (decide (n ≤ 30 ∧ n' ≤ 30) = true) := decide_eq_true ⟨h1, h2⟩
      have h1' : (n : Int) ≤ 30 := by omega
      have h2' : (n' : Int) ≤ 30 := by omega
      go_enter Tryz.func4, Tryz.ntmps4
      go_wp2
      go_ret
      exact BoolBelow.mk (by first | rfl | rw [HD.out]) HB.out
    · have HD : Hid (decide (n ≤ 30 ∧ n' ≤ 30) = false) := decide_eq_false (fun h => h2 h.2)
      have h1' : (n : Int) ≤ 30 := by omega
      have h2' : ¬ (n' : Int) ≤ 30 := by omega
      go_enter Tryz.func4, Tryz.ntmps4
      go_wp2
      go_ret
      exact BoolBelow.mk (by first | rfl | rw [HD.out]) HB.out
  · have HD : Hid (decide (n ≤ 30 ∧ n' ≤ 30) = false) := decide_eq_false (fun h => h1 h.1)
    have h1' : ¬ (n : Int) ≤ 30 := by omega
    go_enter Tryz.func4, Tryz.ntmps4
    go_wp2
    go_ret
    exact BoolBelow.mk (by first | rfl | rw [HD.out]) HB.out
end Go.Proofs.YtogapgjilbcbfaaGreatDoor
