/- The walk of the law MheadFirsts. -/
import Derived.Test.YtmnaccojekojkaaE9
import Derived.Test.YtmnaccojekojkaaE6
namespace Go.Proofs.Ytmnaccojekojkaa
open Go.RowKit Go.Lib
set_option linter.unusedVariables false
set_option linter.unusedSimpArgs false
/-- A byte behind what is owned, whatever number it is said by. -/
theorem wpl_putZ (W : World) (z : Int) {ops : Array Oper} {rest : List Oper} {o : Oper} {a : Act} {Q : Exit → Act → World → Prop}
    (hg : o.guard = none) (s x : Operand) (hop : o.op = .call { callee := .builtin .append, args := #[s, x], argTypes := #[22, 22] })
    (w0 : World) (v : Value) (xs : List Nat) (hs : a.eval s = v) (hown : W.ownsRow w0.heap.size 5 1 v xs.length (bv xs)) (hb : Below w0.heap.size w0 W) (hx : a.eval x = .slice (some ⟨W.heap.size, 0, none⟩) 1 1)
    (hn : xs.length ≤ 100000000) (hz : 0 ≤ z ∧ z < 256)
    (h : ∀ v' w' y, y < 256 → w'.ownsRow w0.heap.size 5 1 v' (xs.length + 1) (bv (xs ++ [y])) → Below w0.heap.size w0 w' → wpList Try.prog ops Q rest (a.put o.dst v') w') :
    wpList Try.prog ops Q (o :: rest) a (W.alloc (.cells #[.int .u8 z] 5)) :=
  wpl_put W [.int .u8 z] hg s x hop w0 v xs.length xs hs hown hb 1 hx rfl [z.toNat] (by show _ = [Value.int .u8 ((z.toNat : Nat) : Int)]; rw [Int.toNat_of_nonneg hz.1]) (xs ++ [z.toNat]) rfl (by omega)
    (fun v' w' h1 h2 => h v' w' z.toNat (by omega) h1 h2)
/-- What holds from round to round. -/
def FirI (w0 : World) (f : Nat) (c i : Value) (wr : World) : Prop :=
  ∃ (j : Nat) (L : List Nat), j ≤ 20 ∧ i = .int .i64 (j : Int) ∧ wr.ownsRow w0.heap.size 5 1 c L.length (bv L) ∧ L.length = j + 1 ∧ L.getD 0 0 = f ∧ (∀ x ∈ L, x < 256) ∧ Below w0.heap.size w0 wr
theorem FirI.step {w0 w' : World} {f j y : Nat} {L : List Nat} {c : Value} (hj : j < 20) (hl : L.length = j + 1) (hf : L.getD 0 0 = f) (hb : ∀ x ∈ L, x < 256) (hy : y < 256) (ho : w'.ownsRow w0.heap.size 5 1 c (L.length + 1) (bv (L ++ [y]))) (hbl : Below w0.heap.size w0 w') : FirI w0 f c (.int .i64 ((j + 1 : Nat) : Int)) w' := by
  refine ⟨j + 1, L ++ [y], by omega, rfl, by rw [List.length_append]; exact ho, by simp; omega, ?_, ?_, hbl⟩
  · match L, hl, hf with
    | a :: t, _, hf => exact hf
  · intro x hx
    rcases List.mem_append.1 hx with h | h
    · exact hb x h
    · rw [List.mem_singleton.1 h]; exact hy
theorem firsts_get (L : List Nat) (f : Nat) (hl : L.length = 21) (hf : L.getD 0 0 = f) (h193 : f ≠ 193) : ∃ a b c : Nat, getM L ((0 : Nat) : Int) = (a, b, c, 0) ∧ 1 ≤ c ∧ c ≤ 10 := by
  have h8 := sizeB_le f
  have h1 : moreB f ≤ 1 := by unfold moreB; split <;> omega
  refine ⟨_, _, 0 + 1 + sizeB f + moreB f, by rw [getM_in L 0 f (by omega) hf, if_neg h193, if_neg (by omega)], by omega, by omega⟩
set_option maxHeartbeats 4000000 in
set_option maxRecDepth 100000 in
theorem mheadFirsts_walk (f : Nat) (v0 : Nat) (w : World) (hf2 : f < 256) (hv0 : v0 < 18446744073709551616) :
    Calls Try.prog 5 #[.int .u8 (f : Int), .int .u64 v0] w (BoolBelow true w) := by
  have AW := Lib.hid (fun W (h : Below w.heap.size w W) => (awakeM_any W).mono fun _ _ hp => BoolBelow.mk (w := w) hp.1 (below_on h hp.2))
  have HST := Lib.hid (show FirI w f (.slice (some ⟨w.heap.size, 0, none⟩) 1 1) (.int .i64 0) (w.alloc (.cells #[.int .u8 (f : Int)] 5)) from
    ⟨0, [f], by omega, rfl, own_byte w _ _, rfl, rfl, (fun x hx => by rw [List.mem_singleton.1 hx]; exact hf2), (Below.refl _ _).alloc (Nat.le_refl _) _⟩)
  go_enter Try.func5, Try.ntmps5
  go_wp2_with fail
  go_loopw [5, 6] (fun c i wr => FirI w f c i wr) (fun _ i _ => 20 - (intOf i).toNat)
  case atStart => exact HST.out
  case round =>
    clear HST
    obtain ⟨j, L, hj, rfl, ho, hl, hLf, hb, hbl⟩ := hrel
    have HO := Lib.hid ho; have HLF := Lib.hid hLf; have HBT := Lib.hid hb; have HBL := Lib.hid hbl; have HL := Lib.hid hl
    clear ho hl hLf hb hbl
    by_cases hj0 : j < 20
    · have e0 : (j : Int) < 20 := by omega
      have e1 : 8 * (j % 8) ≤ 64 := by omega
      go_wp2_with (at_builtin; refine wpl_putZ wr _ rfl _ _ rfl w _ L rfl HO.out HBL.out rfl (by have := HL.out; omega) ?hz ?_)
      case hz => (constructor <;> omega)
      intro c2 w7 y hy ho7 hb7
      have HST := Lib.hid (FirI.step hj0 HL.out HLF.out HBT.out hy ho7 hb7)
      clear ho7 hb7 hy
      go_wp2
      go_roundw
      case rel => exact HST.out
      case measure => simp [intOf]; omega
    · obtain rfl : j = 20 := by omega
      obtain ⟨ad, cap, rfl, hc, hr, _, _⟩ := own_view HO.out
      have hlen : L.length = 21 := HL.out
      rw [hlen] at hc
      rw [hlen]
      have HC := Lib.hid hc; have HR := Lib.hid hr
      have KG := Lib.hid (fun W (h : RdV W ad (bv L)) => getM_any ad 21 cap L ((0 : Nat) : Int) W hlen (by decide) HC.out HBT.out h (by decide))
      have KR := Lib.hid (fun W (h : RdV W ad (bv L)) => refM_any ad 21 cap L ((0 : Nat) : Int) W hlen (by decide) HC.out HBT.out h (by decide))
      unfold GetM at KG KR
      clear hc hr hj0 hj
      by_cases h193 : f = 193
      · have hG : getM L ((0 : Nat) : Int) = (0, 0, 0, 3) := by rw [getM_in L 0 f (by omega) HLF.out, if_pos h193]
        rw [hG] at KG KR
        simp only [tup4] at KG KR
        subst h193
        clear hG hlen
        go_wp2_with fail
        refine (KG.out _ HR.out).mono ?_
        rintro r w4 ⟨rfl, hb4⟩
        have HB4 := Lib.hid (below_on HBL.out hb4)
        have HR4 := Lib.hid (HR.out.on hb4)
        clear hb4
        go_wp2_with fail
        refine (KR.out _ HR4.out).mono ?_
        rintro r w5 ⟨rfl, hb5⟩
        have HB5 := Lib.hid (below_on HB4.out hb5)
        clear hb5
        go_wp2_with fail
        refine (AW.out _ HB5.out).mono ?_
        rintro r w7 ⟨rfl, hb7⟩
        have HB7 := Lib.hid hb7
        clear hb7
        go_wp2_with fail
        go_ret
        exact BoolBelow.mk rfl HB7.out
      · obtain ⟨a, b, c, hG, hc1, hc2⟩ := firsts_get L f hlen HLF.out h193
        rw [hG] at KG KR
        simp only [tup4] at KG KR
        have z1 : decide ((f : Int) = 193) = false := decide_eq_false (by omega)
        have y1 : ((f : Int) == 193) = false := by rw [beq_eq_false_iff_ne]; omega
        have z2 : (1 : Int) ≤ (c : Int) := by omega
        have z3 : (c : Int) ≤ 10 := by omega
        clear hG hlen h193
        go_wp2_with fail
        refine (KG.out _ HR.out).mono ?_
        rintro r w4 ⟨rfl, hb4⟩
        have HB4 := Lib.hid (below_on HBL.out hb4)
        have HR4 := Lib.hid (HR.out.on hb4)
        clear hb4
        go_wp2_with fail
        refine (KR.out _ HR4.out).mono ?_
        rintro r w5 ⟨rfl, hb5⟩
        have HB5 := Lib.hid (below_on HB4.out hb5)
        clear hb5
        go_wp2_with fail
        refine (AW.out _ HB5.out).mono ?_
        rintro r w7 ⟨rfl, hb7⟩
        have HB7 := Lib.hid hb7
        clear hb7
        go_wp2_with fail
        go_ret
        exact BoolBelow.mk rfl HB7.out
end Go.Proofs.Ytmnaccojekojkaa
