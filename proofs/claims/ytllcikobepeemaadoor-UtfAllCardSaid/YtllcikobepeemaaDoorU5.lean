/- The walks of package utf: Put, Runes, Join. -/
import Derived.Test.YtllcikobepeemaaDoorU4
import Derived.OwnWalk
import Derived.Laws.AppendOwn
import Derived.Laws.MakeOwn
namespace Go.Proofs.YtllcikobepeemaaDoor
open Go.RowKit Go.Shelf
set_option linter.unusedVariables false
set_option linter.unusedSimpArgs false

/-- A code point's bytes as a text; empty of what is none. -/
def putS (r : Int) : ByteArray := ⟨(if okR r then enc r else []).toArray⟩
theorem validRune_ok (r : Int) : Lib.validRune r = okR r := by
  rw [Bool.eq_iff_iff, okR_iff]; unfold Lib.validRune; rw [decide_eq_true_eq]; omega
theorem encode_enc {r : Int} (h : okR r = true) : Utf8.encode r = ⟨(enc r).toArray⟩ := by
  have hv : Utf8.valid r = true := h
  obtain ⟨n, rfl, hn⟩ := okR_nat h
  unfold Utf8.encode enc encN
  simp only [hv, if_true, Int.toNat_natCast]
  repeat' split
  all_goals simp

set_option maxHeartbeats 400000 in
theorem put_any (r : Int) (w : World) :
    Calls Tryd.prog 16 #[.int .i32 r] w fun e w' => e = .returned (.string (putS r)) ∧ w = w' := by
  have K := Lib.hid (Tryd.utf8_ValidRune r w)
  rw [validRune_ok] at K
  unfold putS
  cases hv : okR r
  · rw [hv] at K
    clear hv
    go_enter Tryd.func16, Tryd.ntmps16
    go_wp2_with fail
    refine K.out.mono ?_
    rintro x w' ⟨rfl, rfl⟩
    go_wp2
    go_ret
    exact ⟨rfl, rfl⟩
  · have he := Lib.hid (encode_enc hv)
    rw [hv] at K
    clear hv
    go_enter Tryd.func16, Tryd.ntmps16
    go_wp2_with fail
    refine K.out.mono ?_
    rintro x w' ⟨rfl, rfl⟩
    go_wp2
    go_ret
    rw [he.out]
    exact ⟨rfl, rfl⟩

theorem info_i32 : (Tryd.prog.info? 21).map (fun i => (i.zero, i.size, i.bytes)) = some (some (.int .i32 0), 1, 4) := by kernel_rfl
/-- One more at the end of a list of code points that the call owns. -/
theorem wpl_app (w : World) {ops : Array Oper} {rest : List Oper} {o : Oper} {a : Act} {Q : Exit → Act → World → Prop}
    (hg : o.guard = none) (s x : Operand) (hop : o.op = .call { callee := .builtin .append, args := #[s, x], argTypes := #[22, 22] })
    (B : Nat) (v : Value) (n : Nat) (xs : List Value) (hs : a.eval s = v) (hown : w.ownsRow B 21 1 v n xs) (g : Nat) (y : Int) (hx : a.eval x = .slice (some ⟨g, 0, none⟩) 1 1) (hc : w.cell? ⟨g, 0, none⟩ = some (.int .i32 y))
    (hn : n ≤ 1000000000) (hB : B ≤ w.heap.size)
    (h : ∀ v' w', w'.ownsRow B 21 1 v' (n + 1) (xs ++ [.int .i32 y]) → w.grownBy w' v.ownBlock → wpList Tryd.prog ops Q rest (a.put o.dst v') w') :
    wpList Tryd.prog ops Q (o :: rest) a w := by
  obtain ⟨i0, hi, hz0, hz1, hz2⟩ := info_parts info_i32
  refine wpList_append_own w hg s x 22 hop B 21 i0 (.int .i32 0) 1 4 Tryd.underlying22 hi hz0 hz1 hz2 rfl (by decide) v n xs hs hown ⟨g, 0, none⟩ 1 1 [.int .i32 y] hx rfl ?_ ?_ (by unfold maxLen; omega) (by omega) hB (fun v' w' h1 h2 _ => h v' w' h1 h2)
  · intro j u hj
    match j, hj with
    | 0, hj => simp at hj; subst hj; simpa [Addr.add] using hc
  · intro u hu; simp at hu; subst hu; rfl

/-- Code points as values. -/
def rv (l : List Int) : List Value := l.map (Value.int .i32)
/-- A list of code points that the call made. -/
def RunesPost (l : List Int) (w : World) (e : Ending) (w' : World) : Prop :=
  ∃ v, e = .returned v ∧ w'.ownsRow w.heap.size 21 1 v l.length (rv l) ∧ Below w.heap.size w w'

/-- What holds from round to round of Runes. -/
def RR (s : ByteArray) (B IT : Nat) (w : World) (k : Nat) (v : Value) (wr : World) : Prop :=
  ∃ pos acc, s.size - pos ≤ k ∧ acc ++ runesL (tailL s pos) = runesL s.data.toList ∧ acc.length ≤ pos ∧ pos ≤ s.size ∧ wr.ownsRow B 21 1 v acc.length (rv acc) ∧ wr.heap[IT]? = some (.stringIter s pos) ∧ Below B w wr
theorem own_iterAt {w : World} {B : Nat} {e : TypeId} {v : Value} {n : Nat} {xs : List Value} {IT : Nat} {s : ByteArray} {p q : Nat} (h : w.ownsRow B e 1 v n xs) (hi : w.heap[IT]? = some (.stringIter s p)) : (w.iterAt IT s q).ownsRow B e 1 v n xs := by
  refine ⟨h.1, ?_⟩
  rcases h.2 with h2 | ⟨g, cap, cur, rfl, hb, hg, rest⟩
  · exact .inl h2
  · refine .inr ⟨g, cap, cur, rfl, hb, ?_, rest⟩
    rw [Lib.iterAt_other]; exact hg
    intro e; subst e; rw [hg] at hi; cases hi
theorem own_below {w w' : World} {B : Nat} {e : TypeId} {v : Value} {n : Nat} {xs : List Value} (h : w.ownsRow B e 1 v n xs) (hb : Below w.heap.size w w') : w'.ownsRow B e 1 v n xs := by
  refine ⟨h.1, ?_⟩
  rcases h.2 with h2 | ⟨g, cap, cur, rfl, hB, hg, rest⟩
  · exact .inl h2
  · refine .inr ⟨g, cap, cur, rfl, hB, ?_, rest⟩
    rw [hb.block g (Array.getElem?_eq_some_iff.1 hg).1]; exact hg
theorem iter_below {w w' : World} {IT : Nat} {s : ByteArray} {p : Nat} (hi : w.heap[IT]? = some (.stringIter s p)) (hb : Below w.heap.size w w') : w'.heap[IT]? = some (.stringIter s p) := by
  rw [hb.block IT (Array.getElem?_eq_some_iff.1 hi).1]; exact hi
theorem iter_grown {w w' : World} {B : Nat} {e : TypeId} {v : Value} {n : Nat} {xs : List Value} {IT : Nat} {s : ByteArray} {p : Nat} (hi : w.heap[IT]? = some (.stringIter s p)) (h : w.ownsRow B e 1 v n xs) (hg : w.grownBy w' v.ownBlock) : w'.heap[IT]? = some (.stringIter s p) := by
  rw [hg.block IT (Array.getElem?_eq_some_iff.1 hi).1]; exact hi
  intro e
  rcases h.2 with ⟨rfl, _⟩ | ⟨g, cap, cur, rfl, hB, hg, rest⟩
  · simp [Value.ownBlock] at e
  · simp [Value.ownBlock] at e; subst e; rw [hg] at hi; cases hi
theorem iter_alloc {w : World} {IT : Nat} {s : ByteArray} {p : Nat} (hi : w.heap[IT]? = some (.stringIter s p)) (o : Obj) : (w.alloc o).heap[IT]? = some (.stringIter s p) := by
  rw [Lib.alloc_old w o IT (Array.getElem?_eq_some_iff.1 hi).1]; exact hi
/-- One round more: what was appended is the next code point. -/
theorem RR.step {s : ByteArray} {B IT : Nat} {w wr w' : World} {k pos : Nat} {acc : List Int} {v v' : Value} {o : Obj} (hp : pos < s.size) (hk : s.size - pos ≤ k + 1) (ha : acc ++ runesL (tailL s pos) = runesL s.data.toList) (hl : acc.length ≤ pos)
    (ho : wr.ownsRow B 21 1 v acc.length (rv acc)) (hi : wr.heap[IT]? = some (.stringIter s (pos + (runeL (tailL s pos)).2))) (hb : Below B w wr) (hB : B ≤ wr.heap.size)
    (h1 : w'.ownsRow B 21 1 v' (acc.length + 1) (rv acc ++ [.int .i32 (runeL (tailL s pos)).1])) (h2 : (wr.alloc o).grownBy w' v.ownBlock) : RR s B IT w k v' w' := by
  have hw := runeL_width (tailL s pos) (tailL_ne hp)
  rw [tailL_length] at hw
  refine ⟨pos + (runeL (tailL s pos)).2, acc ++ [(runeL (tailL s pos)).1], by omega, ?_, by simp; omega, by omega, ?_, ?_, ?_⟩
  · rw [← ha, runesL_cons (tailL_ne hp), tailL_drop]; simp
  · simpa [rv] using h1
  · exact iter_grown (iter_alloc hi o) (ho.alloc o) h2
  · exact (hb.alloc hB o).grown h2 (by simp; omega) (fun g hg => (ho.lt g hg).1)

set_option maxHeartbeats 1000000 in
theorem runes_any (s : ByteArray) (w : World) (hs : s.size ≤ 1000000) (hT : UT w) :
    Calls Tryd.prog 12 #[.string s] w (RunesPost (runesL s.data.toList) w) := by
  have KC := Lib.hid (Tryd.utf8_RuneCountInString s w (by omega))
  have hc := Lib.runeCount_le s
  obtain ⟨i0, hi0, hz0, hz1, hz2⟩ := info_parts info_i32
  generalize Lib.runeCount s = c at *
  have HT := Lib.hid hT; clear hT
  go_enter Tryd.func12, Tryd.ntmps12
  go_wp2_with fail
  refine KC.out.mono ?_
  rintro r w1 ⟨rfl, pos, hw1⟩
  have hb1 : Below w.heap.size w w1 := by rw [hw1]; exact (Below.refl _ w).alloc (Nat.le_refl _) _
  have HB1 := Lib.hid hb1
  have hsz1 := hb1.size
  clear hw1 hb1
  have HZ0 := Lib.hid hz0; have HZ1 := Lib.hid hz1; have HZ2 := Lib.hid hz2; have HI0 := Lib.hid hi0
  clear hz0 hz1 hz2 hi0
  go_wp2_with (at_make; refine wpList_make_own _ rfl _ _ 22 rfl w.heap.size 21 i0 (.int .i32 0) 1 Tryd.underlying22 HI0.out HZ0.out HZ1.out _ _ _ c rfl rfl rfl (by rw [HZ2.out]; omega) (by unfold maxLen; omega) (by exact hsz1) ?_)
  intro w2 hown hgr
  go_wp2
  have hb2 : Below w.heap.size w w2 := HB1.out.grown hgr hsz1 (fun k h => by cases h)
  have hsz2 := hb2.size
  have hst : RR s w.heap.size w2.heap.size w s.size (.slice (some ⟨w1.heap.size, 0, none⟩) 0 c) (w2.iter s 0) :=
    ⟨0, [], by omega, by rw [tailL_zero]; rfl, Nat.le_refl _, Nat.zero_le _, hown.alloc _, World.iter_heap w2 s 0, hb2.alloc hsz2 _⟩
  have HST := Lib.hid hst
  have HBIT := Lib.hid hsz2
  have HUT := Lib.hid (fun W (h : Below w.heap.size w W) => HT.out.below h)
  have hun : ∀ W, Below w.heap.size w W → w.heap.size ≤ W.heap.size := fun W h => h.size
  have HUN := Lib.hid hun; clear hun
  generalize hIT : w2.heap.size = IT at *
  have HIT := Lib.hid hIT; clear hIT
  clear hst hsz2 hb2 hown hgr hsz1 HB1 HI0 HZ0 HZ1 HZ2
  generalize hB : w.heap.size = B at *
  have HB := Lib.hid hB; clear hB
  go_loopg [3] s.size (fun k v wr => RR s B IT w k v wr)
  case atStart => exact HST.out
  case round =>
    obtain ⟨pos, acc, hk, ha, hl, hps, ho, hi, hb⟩ := hrel
    have HA := Lib.hid ha; clear ha
    by_cases hp : pos < s.size
    · obtain ⟨k, rfl⟩ : ∃ k, gk = k + 1 := ⟨gk - 1, by omega⟩
      have hnx : ∀ ty, (Instr.next (.pointer (some ⟨IT, 0, none⟩)) true ty).run Tryd.prog wr = _ := fun ty => Lib.run_next_any_at wr IT s pos ty hi hp
      rw [decode_tail] at hnx
      have hri := Lib.hid (Lib.iterAt_heap wr IT s pos (pos + (decL (tailL s pos)).2) hi)
      have hro := Lib.hid (own_iterAt (q := pos + (decL (tailL s pos)).2) ho hi)
      have hrb := Lib.hid (Lib.below_iterAt hb HBIT.out s (pos + (decL (tailL s pos)).2))
      have hrw := Lib.hid (rune_width (tailL s pos))
      have HO := Lib.hid ho; have HI := Lib.hid hi; have HBL := Lib.hid hb
      clear ho hi hb
      have hlen : acc.length ≤ 1000000 := by omega
      by_cases hc : (decL (tailL s pos)).1 = 65533
      · have KW := Lib.hid (wrong_any s pos (wr.iterAt IT s (pos + (decL (tailL s pos)).2)) (by unfold maxLen; omega) (by omega) (HUT.out _ hrb.out))
        rw [noneAt_tail hp] at KW
        have hrune := Lib.hid (show (runeL (tailL s pos)).1 ≠ -1 → (runeL (tailL s pos)).1 = 65533 by
          intro h; unfold runeL at h ⊢; split at h; exact absurd rfl h; rename_i e; rw [if_neg e]; simp only; omega)
        generalize hm : (decL (tailL s pos)).2 = m at *
        have hnx2 : ∀ ty, (Instr.next (.pointer (some ⟨IT, 0, none⟩)) true ty).run Tryd.prog wr = Result.ok (Value.tuple #[Value.bool true, Value.int IntKind.i64 ↑pos, Value.int IntKind.i32 65533]) (wr.iterAt IT s (pos + m)) := by
          intro ty; rw [hnx ty, hc]; rfl
        clear hnx hc hm
        by_cases hn : (runeL (tailL s pos)).1 = -1
        · have hd : decide ((runeL (tailL s pos)).1 = -1) = true := decide_eq_true hn
          rw [hd] at KW
          have HN := Lib.hid hn
          clear hn hd
          go_wp2_with fail
          refine KW.out.mono ?_
          rintro r w' ⟨rfl, hbw⟩
          have ho3 := Lib.hid (own_below hro.out hbw)
          have hi3 := Lib.hid (iter_below hri.out hbw)
          have hb3 := Lib.hid (hrb.out.trans (hbw.mono (HUN.out _ hrb.out)))
          clear hbw
          go_wp2_with (at_builtin; refine wpl_app _ rfl _ _ rfl B _ acc.length (rv acc) rfl (ho3.out.alloc _) w'.heap.size (-1) rfl (by simp) (by omega) (by have := HUN.out _ hb3.out; simp; omega) ?_)
          intro v' w4 ho4 hg4
          have HR := Lib.hid (RR.step hp hk HA.out hl ho3.out (by rw [hrw.out]; exact hi3.out) hb3.out (HUN.out _ hb3.out) (by rw [HN.out]; exact ho4) hg4)
          clear ho4 hg4
          go_wp2
          go_roundg k
          case rel => exact HR.out
          case measure => omega
        · have hd : decide ((runeL (tailL s pos)).1 = -1) = false := decide_eq_false hn
          rw [hd] at KW
          have HN := Lib.hid (hrune.out hn)
          clear hn hd
          go_wp2_with fail
          refine KW.out.mono ?_
          rintro r w' ⟨rfl, hbw⟩
          have ho3 := Lib.hid (own_below hro.out hbw)
          have hi3 := Lib.hid (iter_below hri.out hbw)
          have hb3 := Lib.hid (hrb.out.trans (hbw.mono (HUN.out _ hrb.out)))
          clear hbw
          go_wp2_with (at_builtin; refine wpl_app _ rfl _ _ rfl B _ acc.length (rv acc) rfl (ho3.out.alloc _) w'.heap.size 65533 rfl (by simp) (by omega) (by have := HUN.out _ hb3.out; simp; omega) ?_)
          intro v' w4 ho4 hg4
          have HR := Lib.hid (RR.step hp hk HA.out hl ho3.out (by rw [hrw.out]; exact hi3.out) hb3.out (HUN.out _ hb3.out) (by rw [HN.out]; exact ho4) hg4)
          clear ho4 hg4
          go_wp2
          go_roundg k
          case rel => exact HR.out
          case measure => omega
      · have hc' : ¬ ((decL (tailL s pos)).1 : Int) = 65533 := by omega
        have hc2 : (((decL (tailL s pos)).1 : Int) == 65533) = false := by simpa using hc'
        have HN := Lib.hid (congrArg Prod.fst (rune_not hc))
        generalize hm : (decL (tailL s pos)).2 = m at *
        generalize hd : (decL (tailL s pos)).1 = c1 at *
        simp only at HN
        clear hm hd hc
        go_wp2_with (at_builtin; refine wpl_app _ rfl _ _ rfl B _ acc.length (rv acc) rfl (hro.out.alloc _) (wr.iterAt IT s (pos + m)).heap.size c1 rfl (by simp) (by omega) (by have := HUN.out _ hrb.out; simp; omega) ?_)
        intro v' w4 ho4 hg4
        have HR := Lib.hid (RR.step hp hk HA.out hl hro.out (by rw [hrw.out]; exact hri.out) hrb.out (HUN.out _ hrb.out) (by rw [HN.out]; exact ho4) hg4)
        clear ho4 hg4
        go_wp2
        go_roundg k
        case rel => exact HR.out
        case measure => omega
    · have hnx : ∀ ty, (Instr.next (.pointer (some ⟨IT, 0, none⟩)) true ty).run Tryd.prog wr = _ := fun ty => Lib.run_next_end_at wr IT s pos ty hi hp
      have hac : acc = runesL s.data.toList := by rw [← HA.out, tailL_end (by omega), runesL_nil, List.append_nil]
      have hR : RunesPost (runesL s.data.toList) w (.returned u3) wr := ⟨_, rfl, by rw [HB.out, ← hac]; exact ho, by rw [HB.out]; exact hb⟩
      have HR := Lib.hid hR
      clear hac hR ho hi hb
      go_wp2
      go_ret
      exact HR.out
end Go.Proofs.YtllcikobepeemaaDoor
