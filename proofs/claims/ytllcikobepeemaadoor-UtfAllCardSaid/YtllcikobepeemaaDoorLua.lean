/- The walk of the law UtfAll. -/
import Derived.Test.YtllcikobepeemaaDoorU7
import Derived.Test.YtllcikobepeemaaDoorUb
import Derived.Laws.AppendOwnNone
import Derived.Deep.QuietTactic
import Derived.BigQuiet
namespace Go.Proofs.YtllcikobepeemaaDoor
open Go.RowKit Go.Shelf
set_option linter.unusedVariables false
set_option linter.unusedSimpArgs false

theorem run_append_none {P : Program} {w : World} (t ty e : TypeId) (i : TypeInfo) (ht : P.underlying t = some (.slice e)) (hi : P.info? e = some i) (c : Nat) :
    (Builtin.append_ #[t, t] ty #[.slice none 0 0, .slice none 0 c]).run P w = .ok (.slice none 0 0) w := by
  simp [Builtin.append_, run_underlying ht, sizeOf, typeInfo, hi, Builtin.lenOf, Builtin.firstCells]
/-- A copy of a list of code points. -/
theorem wpl_clone (w : World) {ops : Array Oper} {rest : List Oper} {o : Oper} {a : Act} {Q : Exit → Act → World → Prop}
    (hg : o.guard = none) (s x : Operand) (hop : o.op = .call { callee := .builtin .append, args := #[s, x], argTypes := #[22, 22] })
    (ad : Option Addr) (n cap : Nat) (l : List Int) (hs : a.eval s = .slice none 0 0) (hx : a.eval x = .slice ad n cap) (hl : l.length = n) (hr : Rk .i32 w ad l) (hn : n ≤ 1000000000)
    (h : ∀ v' w', w'.ownsRow w.heap.size 21 1 v' l.length (rv l) → Below w.heap.size w w' → wpList Tryd.prog ops Q rest (a.put o.dst v') w') :
    wpList Tryd.prog ops Q (o :: rest) a w := by
  obtain ⟨i0, hi, hz0, hz1, hz2⟩ := info_parts info_i32
  subst hl
  cases ad with
  | none =>
    have h0 : l = [] := by
      rcases Nat.eq_zero_or_pos l.length with h0 | h0
      · exact List.eq_nil_of_length_eq_zero h0
      · obtain ⟨_, _, e, _⟩ := hr 0 h0
        cases e
    subst h0
    refine wpList_plain hg fun K hK => ?_
    have hrun := run_append_none (P := Tryd.prog) (w := w) 22 o.type 21 i0 Tryd.underlying22 hi cap
    simp only [List.length_nil] at hx
    unfold Oper.wp
    simp [execOp, hop, resolve, invoke, builtin, hs, hx, hrun, Result.andThen]
    exact hK _ _ (h _ _ (World.ownsRow_nil _ _ _ _) (Below.refl _ _))
  | some ad =>
    refine wpList_append_own w hg s x 22 hop w.heap.size 21 i0 (.int .i32 0) 1 4 Tryd.underlying22 hi hz0 hz1 hz2 rfl (by decide) _ 0 [] hs (World.ownsRow_nil _ _ _ _) ad l.length cap (rv l) hx (by simp [rv]) ?_ ?_ (by unfold maxLen; omega) (by omega) (Nat.le_refl _) (fun v' w' h1 h2 _ => h v' w' (by simpa using h1) ((Below.refl _ _).grown h2 (Nat.le_refl _) (fun k hk => by cases hk)))
    · intro j u hj
      have hjl : j < l.length := by
        have := (List.getElem?_eq_some_iff.1 hj).1
        simpa [rv] using this
      obtain ⟨b, o', e, _, hc⟩ := hr j hjl
      cases e
      have hadd : (⟨b, o', none⟩ : Addr).add j = ⟨b, o' + j, none⟩ := by unfold Addr.add; split <;> simp_all
      rw [hadd, hc]
      simp only [rv, List.getElem?_map, List.getElem?_eq_getElem hjl, Option.map_some, Option.some.injEq] at hj
      rw [← hj]; simp [List.getD, hjl]
    · intro u hu
      simp only [rv, List.mem_map] at hu
      obtain ⟨x, _, rfl⟩ := hu
      rfl

theorem size_lista (s : ByteArray) : s.data.toList.length = s.size := by simp
/-- An answer of Runes that can be read. -/
def ReadA (l : List Int) (w : World) (e : Ending) (w' : World) : Prop := ∃ ad cap, e = .returned (.slice ad l.length cap) ∧ l.length ≤ cap ∧ Rk .i32 w' ad l ∧ Below w.heap.size w w'
theorem RunesPost.readA {l : List Int} {w : World} {e : Ending} {w' : World} (h : RunesPost l w e w') : ReadA l w e w' := by
  obtain ⟨v, rfl, ho, hb⟩ := h
  obtain ⟨ad, cap, rfl, hc, hr⟩ := own_rk ho
  exact ⟨ad, cap, rfl, hc, hr, hb⟩
/-- What holds from round to round. -/
def AR (n : Nat) (w : World) (k : Nat) (v : Value) (wr : World) : Prop := ∃ i q, n - i ≤ k ∧ i ≤ n ∧ v = .int .i64 ((i : Nat) : Int) ∧ wr = w.drewN q
theorem below_drewNa {B : Nat} {a w : World} (h : Below B a w) (n : Nat) : Below B a (w.drewN n) := h.trans ⟨rfl, rfl, rfl, Nat.le_refl _, fun _ _ => rfl⟩

set_option maxHeartbeats 8000000 in
set_option maxRecDepth 1000000 in
theorem utfAll_main (s : ByteArray) (k0 : Int) (r0 : Int) (ad : Option Addr) (n cap : Nat) (l : List Int) (w : World) (hs : s.size ≤ 1000) (hk0 : -9223372036854775808 ≤ k0 ∧ k0 ≤ 9223372036854775807) (hr0 : -2147483648 ≤ r0 ∧ r0 ≤ 2147483647) (hn : l.length = n) (hcap : n ≤ cap) (hm : n ≤ 300) (h32 : ∀ r ∈ l, -2147483648 ≤ r ∧ r ≤ 2147483647) (hr : Rk .i32 w ad l) (hT : UT w) :
    Calls Tryd.prog 3 #[.string s, .int .i64 k0, .int .i32 r0, .slice ad n cap] w (BoolBelow true w) := by
  have HA := Lib.hid (fun W (h : Below w.heap.size w W) => awake_any W (hT.below h))
  have KU := Lib.hid (uRune_any s k0 w (by unfold maxLen; omega) hk0 hT)
  have KR := Lib.hid (fun W => (refRune_any s k0 W (by omega) hk0).mono fun _ _ h => h.below)
  have JU := Lib.hid (fun ad' cap' W hc (hrk : Rk .i32 W ad' l) => join_any ad' n cap' l W hn hc (by omega) h32 hrk)
  have JR := Lib.hid (fun W (h : Below w.heap.size w W) => refJoin_any ad n cap l W hn hcap (by omega) h32 (hr.below h))
  unfold JoinPost at JU JR
  have XU := Lib.hid (fun W (h : Below w.heap.size w W) => (runes_any s W (by omega) (hT.below h)).mono fun _ _ h => h.readA)
  have XR := Lib.hid (fun W => (refRunes_any s W (by omega)).mono fun _ _ h => h.readA)
  have VU := Lib.hid (fun W (h : Below w.heap.size w W) => valid_any s W (by unfold maxLen; omega) (hT.below h))
  have VR := Lib.hid (fun W => refValid_any s W (by omega))
  have PU := Lib.hid (fun W => put_any r0 W)
  have PR := Lib.hid (fun W => refPut_any r0 W hr0)
  unfold PutPost at PR
  have HN := Lib.hid hn
  have HRL := Lib.hid (fun W (h : Below w.heap.size w W) => hr.below h)
  have hlr := runesL_le s.data.toList
  rw [size_lista] at hlr
  have hs1 : ¬ (1000 : Int) < (s.size : Int) := by omega
  have hs2 : ¬ (300 : Int) < (n : Int) := by omega
  clear hT hn hr h32 hk0 hr0
  generalize hq : runeAt s k0 = q at *
  obtain ⟨c, m⟩ := q
  generalize (⟨(if okAll l then joinL l else []).toArray⟩ : ByteArray) = T at *
  generalize okAll l = OK at *
  generalize putS r0 = P at *
  generalize validL s.data.toList = V at *
  generalize runesL s.data.toList = X at *
  clear hq
  go_enter Tryd.func3, Tryd.ntmps3
  go_wp2_with fail
  refine KU.out.mono ?_
  rintro x w1 ⟨rfl, h1⟩
  have B1 := Lib.hid h1; clear h1
  clear hs1 hs2
  go_wp2_with fail
  refine (KR.out _).mono ?_
  rintro x w2 ⟨rfl, h2⟩
  have B2 := Lib.hid (below_on B1.out h2); clear h2
  go_wp2_with (at_builtin; refine wpl_clone _ rfl _ _ rfl ad n cap l rfl rfl HN.out (HRL.out _ B2.out) (by omega) ?_)
  intro v3 w3 ho3 h3
  obtain ⟨ad3, cap3, rfl, hc3, hr3⟩ := own_rk ho3
  have HR3 := Lib.hid hr3; have HO3 := Lib.hid (HN.out ▸ hc3 : n ≤ cap3)
  have B3 := Lib.hid (below_on B2.out h3)
  clear ho3 h3 hr3 hc3
  rw [HN.out]
  go_wp2_with fail
  refine (JU.out ad3 cap3 w3 HO3.out HR3.out).mono ?_
  rintro x w4 ⟨rfl, h4⟩
  have B4 := Lib.hid (below_on B3.out h4); clear h4
  go_wp2_with fail
  refine (JR.out _ B4.out).mono ?_
  rintro x w5 ⟨rfl, h5⟩
  have B5 := Lib.hid (below_on B4.out h5); clear h5
  go_wp2_with fail
  refine (XU.out _ B5.out).mono ?_
  rintro x w6 ⟨ad6, cap6, rfl, hc6, hr6, h6⟩
  have B6 := Lib.hid (below_on B5.out h6)
  have HR6 := Lib.hid hr6; clear h6 hr6
  go_wp2_with fail
  refine (XR.out _).mono ?_
  rintro x w7 ⟨ad7, cap7, rfl, hc7, hr7, h7⟩
  have HR6b := Lib.hid (HR6.out.below h7)
  have B7 := Lib.hid (below_on B6.out h7)
  have HR7 := Lib.hid hr7; clear h7 hr7
  go_wp2_with fail
  clear hc6 hc7
  go_loopg [19] X.length (fun k v wr => AR X.length w7 k v wr)
  case atStart => exact ⟨0, 0, by omega, Nat.zero_le _, rfl, rfl⟩
  case round =>
    obtain ⟨i, q, hk, hi, rfl, rfl⟩ := hrel
    by_cases hp : i < X.length
    · obtain ⟨k, rfl⟩ : ∃ k, gk = k + 1 := ⟨gk - 1, by omega⟩
      obtain ⟨b1, o1, hd1, _, c1⟩ := HR6b.out i hp
      obtain ⟨b2, o2, hd2, _, c2⟩ := HR7.out i hp
      subst hd1 hd2
      generalize X.getD i 0 = y at *
      have hpz : (i : Int) < (X.length : Int) := by omega
      go_wp2
      go_quiet (fail)
      go_wp2
      go_roundg k
      case rel => exact ⟨i + 1, _, by omega, by omega, by go_num, rfl⟩
      case measure => omega
    · have hpz : ¬ (i : Int) < (X.length : Int) := by omega
      have B8 := Lib.hid (below_drewNa B7.out q)
      generalize w7.drewN q = w8 at *
      go_wp2_with fail
      refine (VU.out _ B8.out).mono ?_
      rintro x w9 ⟨rfl, h9⟩
      have B9 := Lib.hid (below_on B8.out h9); clear h9
      go_wp2_with fail
      refine (VR.out _).mono ?_
      rintro x wa ⟨rfl, ha⟩
      have BA := Lib.hid (below_on B9.out ha); clear ha
      go_wp2_with fail
      refine (PU.out _).mono ?_
      rintro x wb ⟨rfl, rfl⟩
      go_wp2_with fail
      refine (PR.out _).mono ?_
      rintro x wc ⟨rfl, hc⟩
      have BC := Lib.hid (below_on BA.out hc); clear hc
      go_wp2_with fail
      refine (HA.out _ BC.out).mono ?_
      rintro x wd ⟨rfl, hd⟩
      have BD := Lib.hid (below_on BC.out hd); clear hd
      go_wp2
      go_ret
      exact BoolBelow.mk rfl BD.out

set_option maxHeartbeats 4000000 in
set_option maxRecDepth 1000000 in
theorem utfAll_walk (s : ByteArray) (k0 : Int) (r0 : Int) (ad : Option Addr) (n cap : Nat) (l : List Int) (w : World) (hs : s.size ≤ maxLen) (hk0 : -9223372036854775808 ≤ k0 ∧ k0 ≤ 9223372036854775807) (hr0 : -2147483648 ≤ r0 ∧ r0 ≤ 2147483647) (hn : l.length = n) (hcap : n ≤ cap) (h32 : ∀ r ∈ l, -2147483648 ≤ r ∧ r ≤ 2147483647) (hr : Rk .i32 w ad l) (hT : UT w) :
    Calls Tryd.prog 3 #[.string s, .int .i64 k0, .int .i32 r0, .slice ad n cap] w (BoolBelow true w) := by
  have HA := Lib.hid (awake_any w hT)
  by_cases h1 : 1000 < s.size
  · have h1' : (1000 : Int) < (s.size : Int) := by omega
    unfold maxLen at hs
    clear hT hn h32 hr
    go_enter Tryd.func3, Tryd.ntmps3
    go_wp2_with fail
    refine HA.out.mono ?_
    rintro x w1 ⟨rfl, h1⟩
    have B1 := Lib.hid h1; clear h1
    go_wp2
    go_ret
    exact BoolBelow.mk rfl B1.out
  · have h1' : ¬ (1000 : Int) < (s.size : Int) := by omega
    by_cases h2 : 300 < n
    · have h2' : (300 : Int) < (n : Int) := by omega
      unfold maxLen at hs
      clear hT hn h32 hr
      go_enter Tryd.func3, Tryd.ntmps3
      go_wp2_with fail
      refine HA.out.mono ?_
      rintro x w1 ⟨rfl, h1⟩
      have B1 := Lib.hid h1; clear h1
      go_wp2
      go_ret
      exact BoolBelow.mk rfl B1.out
    · exact utfAll_main s k0 r0 ad n cap l w (by omega) hk0 hr0 hn hcap (by omega) h32 hr hT
end Go.Proofs.YtllcikobepeemaaDoor
