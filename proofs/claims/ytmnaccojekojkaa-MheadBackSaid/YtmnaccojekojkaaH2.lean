/- Put of heads: Clip, Grow. -/
import Derived.Test.YtmnaccojekojkaaH1
import Derived.Lib.AppendZeros
import Derived.Lib.AppendZerosOnto
namespace Go.Proofs.Ytmnaccojekojkaa
open Go.RowKit Go.Lib
set_option linter.unusedVariables false
set_option linter.unusedSimpArgs false
/-- What Grow leaves: the same bytes, owned, with room. -/
def GrowPost (l : List Nat) (w : World) (e : Ending) (w' : World) : Prop := ∃ v, e = .returned v ∧ w'.ownsRow w.heap.size 5 1 v l.length (bv l) ∧ Below w.heap.size w w'
theorem firstCells_bv {w : World} {ad : Option Addr} {l : List Nat} {n c : Nat} (hl : l.length = n) (hr : RdV w ad (bv l)) :
    (Builtin.firstCells 1 n (.slice ad n c)).run Try.prog w = .ok (bv l).toArray w := by
  cases ad with
  | none =>
    have h0 : l = [] := by
      rcases Nat.eq_zero_or_pos (bv l).length with h0 | h0
      · rw [bv_len] at h0; exact List.eq_nil_of_length_eq_zero h0
      · obtain ⟨_, _, e, _⟩ := hr 0 h0
        cases e
    subst h0
    exact run_firstCells_none ..
  | some a =>
    refine run_firstCells_some (w := w) 1 n a n c (bv l) (by rw [bv_len]; omega) ?_
    intro j v hj
    have hjl : j < (bv l).length := (List.getElem?_eq_some_iff.1 hj).1
    obtain ⟨b, o', e, _, hc⟩ := hr j hjl
    cases e
    have hadd : (⟨b, o', none⟩ : Addr).add j = ⟨b, o' + j, none⟩ := by unfold Addr.add; split <;> simp_all
    rw [hadd, hc, hj]
/-- Nine more, for nothing: what stands there is what stood there. -/
theorem grown_cells (w : World) (l : List Nat) (n G : Nat) (hl : l.length = n) (hG : n + 9 ≤ G) (hm : G ≤ maxLen) (W : World) (hW : W.heap.size = w.heap.size) :
    (W.alloc (.cells ((bv l).toArray ++ Builtin.zeroCells (Value.cells (.int .u8 0)) 9 ++ Builtin.zeroCells (Value.cells (.int .u8 0)) (G - (n + 9))) 5)).ownsRow w.heap.size 5 1 (.slice (some ⟨w.heap.size, 0, none⟩) n G) l.length (bv l) := by
  refine ⟨by rw [bv_len]; omega, .inr ⟨w.heap.size, G, _, by rw [hl], Nat.le_refl _, by rw [← hW, heap_alloc_new], by omega, hm, ?_, ?_⟩⟩
  · simp [zero_u8, bv_len]; omega
  · simp [zero_u8]
    rw [List.take_append_of_le_length (by rw [bv_len]; omega), List.take_of_length_le (by rw [bv_len]; omega)]
theorem wpl_grow9 (w : World) {ops : Array Oper} {rest : List Oper} {o : Oper} {a : Act} {Q : Exit → Act → World → Prop}
    (hg : o.guard = none) (s x : Operand) (hop : o.op = .call { callee := .builtin .append, args := #[s, x], argTypes := #[22, 3] })
    (ad : Option Addr) (n : Nat) (l : List Nat) (hs : a.eval s = .slice ad n n) (hx : a.eval x = .int .i64 9) (hl : l.length = n) (hn : n ≤ 100000000) (hr : RdV w ad (bv l))
    (h : ∀ G w', n + 9 ≤ G → w'.ownsRow w.heap.size 5 1 (.slice (some ⟨w.heap.size, 0, none⟩) n G) l.length (bv l) → Below w.heap.size w w' → wpList Try.prog ops Q rest (a.put o.dst (.slice (some ⟨w.heap.size, 0, none⟩) (n + 9) G)) w') :
    wpList Try.prog ops Q (o :: rest) a w := by
  obtain ⟨i0, hi, hz0, hz1, hz2⟩ := info_parts info_u8
  refine wpList_append_run w hg s x 22 3 hop _ _ hs hx _ _ (run_append_grow_zeros w 22 3 o.type 5 i0 (.int .u8 0) .i64 .i64 Try.underlying22 Try.underlying3 hi hz0 ad n n (bv l) ?_ 9 (by decide) (by omega) (by omega) (by omega) (by omega) ?_) ?_
  · rw [hz1]; exact firstCells_bv (w := w.drew) hl hr
  · rw [hz2]
    have := nextslicecap_le (need := n + 9) (old := n) (by omega)
    omega
  · refine h _ _ (grownCap_ge ..) (grown_cells w l n _ hl (grownCap_ge ..) (grownCap_le_maxLen _ _ _ _ (by unfold maxLen; omega)) w.drew rfl) ((Below.refl _ _).drew.alloc (Nat.le_refl _) _)
set_option maxHeartbeats 1000000 in
set_option maxRecDepth 100000 in
theorem grow_any (ad : Option Addr) (l : List Nat) (n : Nat) (w : World) (hl : l.length = n) (hn : n ≤ 100000000) (hr : RdV w ad (bv l)) :
    Calls Try.prog 25 #[.slice ad n n, .int .i64 9] w (GrowPost l w) := by
  have HL := Lib.hid hl; have HR := Lib.hid hr; have HN := Lib.hid hn
  clear hl hr hn
  have s1 : IntKind.i64.wrap ((n : Int) - (n : Int)) = 0 := by rw [Int.sub_self]; rfl
  go_enter Try.func25, Try.ntmps25
  go_wp2_with (at_builtin; refine wpl_grow9 _ rfl _ _ rfl ad n l rfl rfl HL.out HN.out HR.out ?_)
  intro G w1 hG ho hb
  have HO := Lib.hid ho; have HB := Lib.hid hb
  clear ho hb
  have hG2 : n ≤ G := by omega
  clear hG
  go_wp2
  go_ret
  exact ⟨_, rfl, HO.out, HB.out⟩
set_option maxHeartbeats 1000000 in
set_option maxRecDepth 100000 in
theorem clip_any (ad : Option Addr) (n cap : Nat) (w : World) (hn : n ≤ cap) :
    Calls Try.prog 12 #[.slice ad n cap] w fun e w' => e = .returned (.slice ad n n) ∧ w' = w := by
  go_enter Try.func12, Try.ntmps12
  go_wp2_with fail
  go_ret
  exact ⟨rfl, rfl⟩
end Go.Proofs.Ytmnaccojekojkaa
