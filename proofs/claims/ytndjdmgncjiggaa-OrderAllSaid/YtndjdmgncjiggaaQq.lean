/- The reference's Twice. -/
import Derived.Test.YtndjdmgncjiggaaQY5
import Derived.Test.YtndjdmgncjiggaaQp
namespace Go.Proofs.Ytndjdmgncjiggaa
open Go.RowKit Go.Shelf Go.Sort
set_option linter.unusedVariables false
set_option linter.unusedSimpArgs false
set_option maxHeartbeats 4000000 in
set_option maxRecDepth 100000 in
theorem refTwice_any (ad : Option Addr) (n cap : Nat) (l : List ByteArray) (w : World) (hn : l.length = n) (hm : n ≤ 1000000) (hr : RdV w ad (sv l)) :
    Calls Try.prog 12 #[.slice ad n cap] w (TwicePost (keyB l) n w) := by
  have HR := Lib.hid hr
  have HN := Lib.hid hn
  clear hr hn
  go_enter Try.func12, Try.ntmps12
  go_wp2_with fail
  go_loopw [4] (fun iv wr => ∃ i q : Nat, i ≤ n ∧ iv = .int .i64 (i : Int) ∧ wr = w.drewN q ∧ ∀ b, b < i → ∀ a, a < b → keyB l a ≠ keyB l b) (fun iv _ => n - (intOf iv).toNat)
  case atStart => exact ⟨0, 0, Nat.zero_le _, rfl, rfl, fun b hb => absurd hb (by omega)⟩
  case round =>
    obtain ⟨i, q, hi, rfl, rfl, hno⟩ := hrel
    have HNO := Lib.hid hno
    clear hno
    by_cases hlt : i < n
    · have h1 : (i : Int) < (n : Int) := by omega
      have h2 : (0 : Int) ≤ (i : Int) := by omega
      obtain ⟨b, o, rfl, _, hci⟩ := HR.out i (by rw [sv_len, HN.out]; exact hlt)
      rw [sv_get _ _ (by rw [HN.out]; exact hlt)] at hci
      go_wp2_with fail
      go_loopw [5] (fun kv W => ∃ k p : Nat, k ≤ i ∧ kv = .int .i64 (k : Int) ∧ W = w.drewN p ∧ ∀ a, a < k → keyB l a ≠ keyB l i) (fun kv _ => i - (intOf kv).toNat)
      case atStart => exact ⟨0, _, Nat.zero_le _, rfl, rfl, fun a ha => absurd ha (by omega)⟩
      case round =>
        obtain ⟨k, p, hk, rfl, rfl, hne⟩ := hrel
        have HNE := Lib.hid hne
        clear hne
        by_cases hkl : k < i
        · have k1 : (k : Int) < (i : Int) := by omega
          have k2 : (0 : Int) ≤ (k : Int) := by omega
          have k3 : (k : Int) < (n : Int) := by omega
          have hck := HR.out.at k (by rw [sv_len, HN.out]; omega)
          rw [sv_get _ _ (by rw [HN.out]; omega)] at hck
          have HKE := Lib.hid (show keyB l k = (l.getD k ByteArray.empty).toList ∧ keyB l i = (l.getD i ByteArray.empty).toList from ⟨rfl, rfl⟩)
          generalize l.getD i ByteArray.empty = X at *
          generalize l.getD k ByteArray.empty = Y at *
          by_cases he : Y.toList = X.toList
          · have HF := Lib.hid (show Twc (keyB l) n i true from ⟨fun h => (by cases h), fun _ => ⟨hlt, ⟨k, hkl, by rw [HKE.out.1, HKE.out.2]; exact he⟩, HNO.out⟩⟩)
            have hb : (Y.toList == X.toList) = true := by rw [beq_iff_eq]; exact he
            clear he
            go_wp2
            go_quiet (fail)
            go_wp2
            go_ret2
            exact ⟨i, true, rfl, HF.out, by first | exact below_drewN (Below.refl _ _) _ | exact below_drewN (below_drewN (Below.refl _ _) _) _⟩
          · have hb : (Y.toList == X.toList) = false := by rw [beq_eq_false_iff_ne]; exact he
            have HST := Lib.hid (show ∀ a, a < k + 1 → keyB l a ≠ keyB l i from fun a ha => by
              by_cases e : a = k
              · subst e; rw [HKE.out.1, HKE.out.2]; exact he
              · exact HNE.out a (by omega))
            clear he
            go_wp2
            go_quiet (fail)
            go_wp2
            go_roundw
            case rel => exact ⟨k + 1, _, by omega, by go_num, rfl, HST.out⟩
            case measure => simp [intOf]; omega
        · obtain rfl : k = i := by omega
          have k1 : ¬ (k : Int) < (k : Int) := by omega
          have HST := Lib.hid (show ∀ b, b < k + 1 → ∀ a, a < b → keyB l a ≠ keyB l b from fun b hb a ha => by
            by_cases e : b = k
            · subst e; exact HNE.out a ha
            · exact HNO.out b (by omega) a ha)
          go_wp2
          go_roundw
          case rel => exact ⟨k + 1, _, by omega, by go_num, rfl, HST.out⟩
          case measure => simp [intOf]; omega
    · obtain rfl : i = n := by omega
      have h1 : ¬ (i : Int) < (i : Int) := by omega
      have HF := Lib.hid (show Twc (keyB l) i 0 false from ⟨fun _ => ⟨rfl, fun b hb a ha => HNO.out b hb a ha⟩, fun h => by cases h⟩)
      go_wp2
      go_ret2
      exact ⟨0, false, rfl, HF.out, below_drewN (Below.refl _ _) _⟩
end Go.Proofs.Ytndjdmgncjiggaa
/- An object that grows: its box, its names' list, its values' list. (Over the reference's places.) -/
namespace Go.Proofs.Ytndjdmgncjiggaa
open Go.RowKit Go.Shelf
set_option linter.unusedVariables false
set_option linter.unusedSimpArgs false

/-- An object's box. -/
def objK (ka : Option Addr) (kn kc : Nat) (va : Option Addr) (vn vc : Nat) : Cel := ⟨7, false, false, none, 0, 0, 0, ⟨#[]⟩, ka, kn, kc, va, vn, vc⟩
/-- The box, and both lists, as they stand. -/
structure Grw (W2 : World) (bu : Nat) (c : Cel) (vK : Value) (nK : Nat) (xK : List Value) (vV : Value) (nV : Nat) (xV : List Value) (W : World) : Prop where
  but : But bu W2 W
  lt : bu < W2.heap.size
  box : BoxT W bu c
  ok : W.ownsRow W2.heap.size 9 1 vK nK xK
  ov : W.ownsRow W2.heap.size 31 8 vV nV xV
theorem own_block {w : World} {B : Nat} {e : TypeId} {size : Nat} {v : Value} {n : Nat} {xs : List Value} (h : w.ownsRow B e size v n xs) {k : Nat} (hk : v.ownBlock = some k) : B ≤ k ∧ ∃ cs, w.heap[k]? = some (.cells cs e) := by
  rcases h.2 with ⟨rfl, _⟩ | ⟨g, cap, cur, rfl, hB, hg, _⟩
  · cases hk
  · simp only [Value.ownBlock, Option.some.injEq] at hk
    subst hk
    exact ⟨hB, cur, hg⟩
theorem own_heap {w w' : World} {B : Nat} {e : TypeId} {size : Nat} {v : Value} {n : Nat} {xs : List Value} (h : w.ownsRow B e size v n xs) (hb : ∀ k, v.ownBlock = some k → w'.heap[k]? = w.heap[k]?) : w'.ownsRow B e size v n xs := by
  refine ⟨h.1, ?_⟩
  rcases h.2 with h2 | ⟨g, cap, cur, rfl, hB, hg, rest⟩
  · exact .inl h2
  · exact .inr ⟨g, cap, cur, rfl, hB, by rw [hb g rfl]; exact hg, rest⟩
theorem grown_type {w w' : World} {B : Nat} {e e' : TypeId} {size : Nat} {v : Value} {n : Nat} {xs : List Value} (h : w.ownsRow B e size v n xs) (hg : w.grownBy w' v.ownBlock) {k : Nat} {cs : Array Value} (hk : w.heap[k]? = some (.cells cs e')) (hne : e ≠ e') : w'.heap[k]? = w.heap[k]? := by
  refine hg.block k (Array.getElem?_eq_some_iff.1 hk).1 (fun he => ?_)
  obtain ⟨_, cs', h2⟩ := own_block h he.symm
  rw [h2] at hk
  simp only [Option.some.injEq, Obj.cells.injEq] at hk
  exact hne hk.2.1
theorem str_ne_tree : (9 : TypeId) ≠ 31 := by decide
section
variable {W2 W w' : World} {bu : Nat} {c : Cel} {vK vV : Value} {nK nV : Nat} {xK xV : List Value}
theorem Grw.below (h : Grw W2 bu c vK nK xK vV nV xV W) (hb : Below W.heap.size W w') : Grw W2 bu c vK nK xK vV nV xV w' :=
  ⟨h.but.trans (But.of_below hb), h.lt, h.box.on (hb.block _ h.box.lt), own_onN h.ok hb, own_onN h.ov hb⟩
theorem Grw.alloc (h : Grw W2 bu c vK nK xK vV nV xV W) (o : Obj) : Grw W2 bu c vK nK xK vV nV xV (W.alloc o) := h.below ((Below.refl _ _).alloc (Nat.le_refl _) _)
theorem grow_but {W2 W w' : World} {bu : Nat} (h : But bu W2 W) {B : Nat} {e : TypeId} {size : Nat} {v : Value} {n : Nat} {xs : List Value} (ho : W.ownsRow W2.heap.size e size v n xs) (hg : W.grownBy w' v.ownBlock) : But bu W2 w' :=
  ⟨hg.os.trans h.os, hg.tape.trans h.tape, hg.output.trans h.output, Nat.le_trans h.size hg.size, fun k h1 h2 => by
    rw [hg.block k (Nat.lt_of_lt_of_le h1 h.size) (fun e => by have := (own_block ho e.symm).1; omega)]; exact h.block k h1 h2⟩
theorem Grw.appK (h : Grw W2 bu c vK nK xK vV nV xV W) {v' : Value} {n' : Nat} {x' : List Value} (ho : w'.ownsRow W2.heap.size 9 1 v' n' x') (hg : W.grownBy w' vK.ownBlock) : Grw W2 bu c v' n' x' vV nV xV w' :=
  ⟨grow_but (B := 0) h.but h.ok hg, h.lt, h.box.on (hg.block _ h.box.lt (fun e => by have := (own_block h.ok e.symm).1; have := h.lt; omega)), ho,
    own_heap h.ov (fun k hk => by obtain ⟨_, cs, h2⟩ := own_block h.ov hk; exact grown_type h.ok hg h2 str_ne_tree)⟩
theorem Grw.appV (h : Grw W2 bu c vK nK xK vV nV xV W) {v' : Value} {n' : Nat} {x' : List Value} (ho : w'.ownsRow W2.heap.size 31 8 v' n' x') (hg : W.grownBy w' vV.ownBlock) : Grw W2 bu c vK nK xK v' n' x' w' :=
  ⟨grow_but (B := 0) h.but h.ov hg, h.lt, h.box.on (hg.block _ h.box.lt (fun e => by have := (own_block h.ov e.symm).1; have := h.lt; omega)),
    own_heap h.ok (fun k hk => by obtain ⟨_, cs, h2⟩ := own_block h.ok hk; exact grown_type h.ov hg h2 str_ne_tree.symm), ho⟩
/-- A literal for the other list stays. -/
theorem Grw.litV (h : Grw W2 bu c vK nK xK vV nV xV W) (hg : W.grownBy w' vK.ownBlock) {g : Nat} {cs : Array Value} (hl : W.heap[g]? = some (.cells cs 31)) : w'.heap[g]? = some (.cells cs 31) := by
  rw [grown_type h.ok hg hl str_ne_tree]; exact hl
theorem set_heap (w : World) (b i k : Nat) (v : Value) (h : k ≠ b) : (w.setCell ⟨b, i, none⟩ v).heap[k]? = w.heap[k]? := by
  simp [World.setCell, Array.getElem?_modify, Ne.symm h]
theorem Grw.set (h : Grw W2 bu c vK nK xK vV nV xV W) (i : Nat) (v : Value) {c' : Cel} (hb : BoxT (W.setCell ⟨bu, i, none⟩ v) bu c') : Grw W2 bu c' vK nK xK vV nV xV (W.setCell ⟨bu, i, none⟩ v) :=
  ⟨h.but.trans ((But.refl _ _).setCell _ _), h.lt, hb,
    own_heap h.ok (fun k hk => set_heap _ _ _ _ _ (by have := (own_block h.ok hk).1; have := h.lt; omega)),
    own_heap h.ov (fun k hk => set_heap _ _ _ _ _ (by have := (own_block h.ov hk).1; have := h.lt; omega))⟩
theorem box_set6 {b : Nat} {k : Int} {b0 neg : Bool} {ma : Option Addr} {mn mc : Nat} {e : Int} {st : ByteArray} {ka : Option Addr} {kn kc : Nat} {va : Option Addr} {vn vc : Nat} (h : BoxT W b ⟨k, b0, neg, ma, mn, mc, e, st, ka, kn, kc, va, vn, vc⟩) (ka' : Option Addr) (kn' kc' : Nat) :
    BoxT (W.setCell ⟨b, 6, none⟩ (.slice ka' kn' kc')) b ⟨k, b0, neg, ma, mn, mc, e, st, ka', kn', kc', va, vn, vc⟩ := by
  unfold BoxT at h ⊢
  simp only [World.setCell, Array.getElem?_modify, h]
  simp [Cel.cells]
theorem rd_lit (W : World) (g : Nat) (cs : List Value) (e : TypeId) (h : W.heap[g]? = some (.cells cs.toArray e)) : RdV W (some ⟨g, 0, none⟩) cs :=
  BlkV.all (e := e) (by unfold BlkV; exact h)
end
/-- What holds behind a pair of appends. -/
def PCut (W2 : World) (bu : Nat) (ks : List ByteArray) (us : List MT) (wx : World) : Prop :=
  ∃ ka kc va vc, Grw W2 bu (objK ka ks.length kc va us.length vc) (.slice ka ks.length kc) ks.length (sv ks) (.slice va us.length vc) us.length (flat (us.map MT.c)) wx
theorem si2 {A B : Prop} {L : Array Bool} (i a b : Nat) (ha : (i == a) = false) (hb : (i == b) = false) (M : Prop) :
    (M ∧ ((L.setIfInBounds i true).getD a false = false → A) ∧ ((L.setIfInBounds i true).getD b false = false → B)) ↔ (M ∧ (L.getD a false = false → A) ∧ (L.getD b false = false → B)) := by
  rw [getD_set_ne false (by simpa using ha), getD_set_ne false (by simpa using hb)]
theorem flat_range {w : World} {b o : Nat} {l : List MT} (h : RdV w (some ⟨b, o, none⟩) (flat (l.map MT.c))) (p : Nat) (hp : p < l.length) {c : Cel} (hc : (l.getD p (leafT 0 false ⟨#[]⟩)).c = c) : w.rangeAt b (o + p * 8) c.cells := fun j v hv => by
  have hj : j < 8 := by have := (List.getElem?_eq_some_iff.1 hv).1; simpa [Cel.cells] using this
  obtain ⟨x0, x1, x2, x3, x4, x5, x6, x7⟩ := flat_at h p (by rw [List.length_map]; exact hp) (c := c) (by rw [← hc]; exact getD_mapc hp _)
  unfold Cel.cells at hv
  match j, hj, hv with
  | 0, _, hv => simp at hv; subst hv; exact x0
  | 1, _, hv => simp at hv; subst hv; exact x1
  | 2, _, hv => simp at hv; subst hv; exact x2
  | 3, _, hv => simp at hv; subst hv; exact x3
  | 4, _, hv => simp at hv; subst hv; exact x4
  | 5, _, hv => simp at hv; subst hv; exact x5
  | 6, _, hv => simp at hv; subst hv; exact x6
  | 7, _, hv => simp at hv; subst hv; exact x7
theorem box_range {w : World} {b : Nat} {c : Cel} (h : BoxT w b c) : w.rangeAt b 0 c.cells := fun j v hv => by
  unfold BoxT at h
  simp [World.cell?, h, hv]
theorem take_up {α : Type} (l : List α) (i : Nat) (d : α) (h : i < l.length) : l.take (i + 1) = l.take i ++ [l.getD i d] := by
  rw [List.take_add_one]
  simp [List.getD, h]
theorem sv_at {w : World} {b o : Nat} {l : List ByteArray} (h : RdV w (some ⟨b, o, none⟩) (sv l)) (i : Nat) (hi : i < l.length) : w.cell? ⟨b, o + i, none⟩ = some (.string (l.getD i ByteArray.empty)) := by
  obtain ⟨b', o', e, _, hc⟩ := h i (by rw [sv_len]; exact hi)
  cases e
  rw [sv_get _ _ hi] at hc; exact hc
theorem pcut_of {W2 W : World} {bu : Nat} {ks : List ByteArray} {us : List MT} {x : ByteArray} {y : MT} {ka va : Option Addr} {kc vc : Nat} {c : Cel} (hc : y.c = c)
    (h : Grw W2 bu ⟨7, false, false, none, 0, 0, 0, ⟨#[]⟩, ka, ks.length + 1, kc, va, us.length + 1, vc⟩ (.slice ka (ks.length + 1) kc) (ks.length + 1) (sv ks ++ [.string x]) (.slice va (us.length + 1) vc) (us.length + 1) (flat (us.map MT.c) ++ c.cells) W) : PCut W2 bu (ks ++ [x]) (us ++ [y]) W := by
  refine ⟨ka, kc, va, vc, ?_⟩
  have e1 : (ks ++ [x]).length = ks.length + 1 := by simp
  have e2 : (us ++ [y]).length = us.length + 1 := by simp
  have e3 : sv (ks ++ [x]) = sv ks ++ [.string x] := by simp [sv]
  have e4 : flat ((us ++ [y]).map MT.c) = flat (us.map MT.c) ++ c.cells := by simp [flat, hc]
  rw [e1, e2, e3, e4]
  exact h
end Go.Proofs.Ytndjdmgncjiggaa
