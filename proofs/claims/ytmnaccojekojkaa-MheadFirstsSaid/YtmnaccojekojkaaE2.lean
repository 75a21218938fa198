/- Put of heads of MessagePack, walked. -/
import Derived.Test.YtmnaccojekojkaaE1
import Derived.ArgAppend
namespace Go.Proofs.Ytmnaccojekojkaa
open Go.RowKit Go.Lib
set_option linter.unusedVariables false
set_option linter.unusedSimpArgs false
/-- One byte behind what is full. -/
theorem wpl_one (w : World) (x : Value) {ops : Array Oper} {rest : List Oper} {o : Oper} {a : Act} {Q : Exit → Act → World → Prop}
    (hg : o.guard = none) (s y : Operand) (hop : o.op = .call { callee := .builtin .append, args := #[s, y], argTypes := #[22, 22] })
    (ad : Option Addr) (n : Nat) (l : List Nat) (hs : a.eval s = .slice ad n n) (hl : l.length = n) (hr : RdV w ad (bv l)) (hy : a.eval y = .slice (some ⟨w.heap.size, 0, none⟩) 1 1)
    (b : Nat) (hx : x = .int .u8 (b : Int)) (hn : n ≤ 100000000)
    (h : ∀ v' w', w'.ownsRow w.heap.size 5 1 v' (l ++ [b]).length (bv (l ++ [b])) → Below w.heap.size w w' → wpList Try.prog ops Q rest (a.put o.dst v') w') :
    wpList Try.prog ops Q (o :: rest) a (w.alloc (.cells #[x] 5)) := by
  obtain ⟨i0, hi, hz0, hz1, hz2⟩ := info_parts info_u8
  have hB : Below w.heap.size w (w.alloc (.cells #[x] 5)) := (Below.refl _ _).alloc (Nat.le_refl _) _
  have hr2 := hr.on hB
  have hnew : RdV (w.alloc (.cells #[x] 5)) (some ⟨w.heap.size, 0, none⟩) [x] := rd_new w _ [x]
  refine wpList_append_grows _ hg s y 22 hop 5 i0 (.int .u8 0) 1 1 Try.underlying22 hi hz0 hz1 hz2 rfl (by decide) ad n n (bv l) hs ?_ (by rw [bv_len]; omega) ?_ ⟨w.heap.size, 0, none⟩ 1 1 [x] hy rfl ?_ ?_ (by omega) (by unfold maxLen; omega) (by omega) ?_
  · intro e
    subst e
    have : (bv l).length = 0 := by
      rcases Nat.eq_zero_or_pos (bv l).length with h0 | h0
      · exact h0
      · obtain ⟨_, _, e, _⟩ := hr 0 h0
        cases e
    rw [bv_len] at this
    omega
  · intro b' e j u hj
    subst e
    have hjl : j < (bv l).length := (List.getElem?_eq_some_iff.1 hj).1
    obtain ⟨bb, o', e, _, hc⟩ := hr2 j hjl
    cases e
    have hadd : (⟨bb, o', none⟩ : Addr).add j = ⟨bb, o' + j, none⟩ := by unfold Addr.add; split <;> simp_all
    rw [hadd, hc, hj]
  · intro j u hj
    have hjl : j < [x].length := (List.getElem?_eq_some_iff.1 hj).1
    obtain ⟨bb, o', e, _, hc⟩ := hnew j hjl
    cases e
    have hadd : (⟨w.heap.size, 0, none⟩ : Addr).add j = ⟨w.heap.size, 0 + j, none⟩ := by unfold Addr.add; split <;> simp_all
    rw [hadd, hc, hj]
  · intro u hu
    rw [List.mem_singleton] at hu
    subst hu
    rw [hx]; rfl
  · intro v' w' h1 h2
    refine h v' w' ?_ ((hB).grown h2 (by simp) (fun k hk => by cases hk))
    have e : bv (l ++ [b]) = bv l ++ [x] := by rw [bv_app, hx]; rfl
    rw [e, List.length_append, hl]
    refine ⟨h1.1, ?_⟩
    rcases h1.2 with h3 | ⟨g, cap, cur, rfl, hB', rest⟩
    · exact .inl h3
    · exact .inr ⟨g, cap, cur, rfl, Nat.le_trans hB.size hB', rest⟩

set_option maxHeartbeats 1000000 in
set_option maxRecDepth 100000 in
theorem stepOf_any (n : Nat) (w : World) (hn : n < 18446744073709551616) :
    Calls Try.prog 26 #[.int .u64 (n : Int)] w fun e w' => e = .returned (.int .u8 ((stepN n : Nat) : Int)) ∧ w' = w := by
  by_cases h2 : n < 256
  · have E := Lib.hid (stepN_0 h2)
    have e2 : decide ((n : Int) ≤ 255) = true := decide_eq_true (by omega)
    go_enter Try.func26, Try.ntmps26
    go_wp2_with fail
    go_ret
    exact ⟨by rw [E.out]; rfl, rfl⟩
  have e2 : decide ((n : Int) ≤ 255) = false := decide_eq_false (by omega)
  by_cases h3 : n < 65536
  · have E := Lib.hid (stepN_1 (by omega) h3)
    have e3 : decide ((n : Int) ≤ 65535) = true := decide_eq_true (by omega)
    go_enter Try.func26, Try.ntmps26
    go_wp2_with fail
    go_ret
    exact ⟨by rw [E.out]; rfl, rfl⟩
  have e3 : decide ((n : Int) ≤ 65535) = false := decide_eq_false (by omega)
  by_cases h4 : n < 4294967296
  · have E := Lib.hid (stepN_2 (by omega) h4)
    have e4 : decide ((n : Int) ≤ 4294967295) = true := decide_eq_true (by omega)
    go_enter Try.func26, Try.ntmps26
    go_wp2_with fail
    go_ret
    exact ⟨by rw [E.out]; rfl, rfl⟩
  · have E := Lib.hid (stepN_3 (show 4294967296 ≤ n by omega))
    have e4 : decide ((n : Int) ≤ 4294967295) = false := decide_eq_false (by omega)
    go_enter Try.func26, Try.ntmps26
    go_wp2_with fail
    go_ret
    exact ⟨by rw [E.out]; rfl, rfl⟩
/-- What holds from round to round. -/
def PutI (w0 : World) (l : List Nat) (f S x : Nat) (c i : Value) (wr : World) : Prop :=
  ∃ (j : Nat) (L : List Nat), j ≤ S ∧ i = .int .i64 (j : Int) ∧ wr.ownsRow w0.heap.size 5 1 c L.length (bv L) ∧ L.length + j = l.length + 1 + S ∧ L ++ be j x = l ++ f :: be S x ∧ Below w0.heap.size w0 wr
theorem PutI.step {w0 w' : World} {l L : List Nat} {f S x t : Nat} {c : Value} (hj : t + 1 ≤ S) (hn : L.length + (t + 1) = l.length + 1 + S) (hL : L ++ be (t + 1) x = l ++ f :: be S x) (ho : w'.ownsRow w0.heap.size 5 1 c (L.length + 1) (bv (L ++ [x / 256 ^ t % 256]))) (hb : Below w0.heap.size w0 w') : PutI w0 l f S x c (.int .i64 (t : Int)) w' :=
  ⟨t, L ++ [x / 256 ^ t % 256], by omega, rfl, by rw [List.length_append]; exact ho, by simp; omega, by rw [← hL]; simp [be], hb⟩
set_option maxHeartbeats 2000000 in
set_option maxRecDepth 100000 in
theorem put_core (ad : Option Addr) (l : List Nat) (n f S x : Nat) (w : World) (hl : l.length = n) (hn : n ≤ 1000000) (hr : RdV w ad (bv l)) (hf : f < 256) (hS : S ≤ 8) (hx : x < 18446744073709551616) :
    Calls Try.prog 13 #[.slice ad n n, .int .u8 (f : Int), .int .i64 (S : Int), .int .u64 (x : Int)] w (PutL (l ++ f :: be S x) w) := by
  have K2 := Lib.hid (grow_any ad l n w hl (by omega) hr)
  have HL := Lib.hid hl
  have HN := Lib.hid hn
  clear hl hr hn
  go_enter Try.func13, Try.ntmps13
  go_wp2_with fail
  refine K2.out.mono ?_
  rintro r w2 ⟨v0, rfl, ho, hb⟩
  have O0 := Lib.hid ho; have B0 := Lib.hid hb
  clear ho hb K2
  go_wp2_with (at_builtin; refine wpl_put _ _ rfl _ _ rfl w v0 (l.length) (l) rfl O0.out B0.out 1 rfl rfl [f] rfl (l ++ [f]) rfl (by have := HN.out; have := HL.out; omega) ?_)
  intro v1 u1 ho hb
  have HST := Lib.hid (show PutI w l f S x v1 (.int .i64 (S : Int)) u1 from ⟨S, l ++ [f], Nat.le_refl _, rfl, by rw [List.length_append]; exact ho, by simp, by simp, hb⟩)
  clear ho hb O0 B0
  go_wp2
  go_loopw [0, 2] (fun c i wr => PutI w l f S x c i wr) (fun _ i _ => (intOf i).toNat)
  case atStart => exact HST.out
  case round =>
    clear HST
    obtain ⟨j, L, hj, rfl, ho, hnn, hLL, hbl⟩ := hrel
    have HNN := Lib.hid hnn
    have HO := Lib.hid ho; have HLL := Lib.hid hLL; have HBL := Lib.hid hbl
    clear hnn ho hLL hbl
    by_cases hj0 : 0 < j
    · obtain ⟨t, rfl⟩ : ∃ t, j = t + 1 := ⟨j - 1, by omega⟩
      have e0 : (0 : Int) < ((t + 1 : Nat) : Int) := by omega
      have e1 : ((t + 1 : Nat) : Int) - 1 = (t : Int) := by omega
      have e2 : (0 : Int) ≤ (t : Int) := by omega
      have e3 : (8 * t : Nat) ≤ 64 := by omega
      have EB := Lib.hid (shr_byte x t)
      clear hj0
      go_wp2_with (at_builtin; refine wpl_put wr _ rfl _ _ rfl w _ L.length L rfl HO.out HBL.out 1 rfl rfl [x / 256 ^ t % 256] (by rw [EB.out]; rfl) (L ++ [x / 256 ^ t % 256]) rfl (by have := HN.out; have := HL.out; have := HNN.out; omega) ?_)
      intro c2 w7 ho7 hb7
      have HST := Lib.hid (PutI.step hj HNN.out HLL.out ho7 hb7)
      clear ho7 hb7
      go_wp2
      go_roundw
      case rel => exact HST.out
      case measure => simp [intOf]
    · obtain rfl : j = 0 := by omega
      have hL : L = l ++ f :: be S x := by rw [← HLL.out]; simp [be]
      clear hj0 HLL
      go_wp2
      go_ret
      have O := HO.out
      refine ⟨_, rfl, ?_, HBL.out⟩
      rw [← hL]; exact O
end Go.Proofs.Ytmnaccojekojkaa
