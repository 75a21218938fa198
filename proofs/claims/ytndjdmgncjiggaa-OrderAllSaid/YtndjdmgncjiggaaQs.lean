/- The rows' arguments and witness: what every law of a seat without limbs shares. -/
import Derived.Test.YtndjdmgncjiggaaQd
import Derived.ProofKit
import Derived.SizedLaws
import Derived.OpenShut
import Derived.LaidMore
import Derived.Lay
import Derived.SevenTiedAt
import Derived.Stop.Joined
import Derived.SliceStrings
import Derived.Test.YtndjdmgncjiggaaQKr
namespace Go.Proofs.Ytndjdmgncjiggaa
open Go.ChangeShapes Go.WideShapes Go.ChangeAt Go.RowKit
set_option linter.unusedVariables false
set_option linter.unusedSimpArgs false

theorem own : ownKnob Try.prog.godebug = none := by kernel_rfl
theorem laidOut : laidOutB Try.prog = true := by kernel_rfl
theorem cells_string : Try.prog.cellsOf 9 = 1 := by kernel_rfl

theorem i64_bd {n : Int} (h : (Lit.int .i64 n).wf = true) : -9223372036854775808 ≤ n ∧ n ≤ 9223372036854775807 := by
  simpa [Lit.wf, IntKind.min, IntKind.max, IntKind.signed, IntKind.bits] using h

set_option maxRecDepth 100000 in
/-- An argument that is a slice of texts. -/
theorem texts_arg {H : Type} {enc : TypeId × Value → H} {W : World} {base : Nat} {v : Value} {d : DataW H} {p : List MemPlace}
    (hok : Value.okWide Try.prog W .any base 22 v) (h : DataW.Trod enc Try.prog W 0 (fun _ => true) true 22 v d p) :
    ∃ ad len cap l, v = .slice ad len cap ∧ l.length = len ∧ len ≤ cap ∧ len ≤ maxLen ∧ (∀ s ∈ l, s.size ≤ maxLen) ∧ RdV W ad (sv l) ∧ (ad = none → cap = 0) := by
  obtain ⟨a0, len, cap, rfl⟩ := okWide_slice Try.underlying22 hok
  obtain ⟨fuel, hf⟩ := h
  rcases open_strings Try.underlying22 Try.underlying9 cells_string hf with ⟨hcs, hx⟩ | ⟨a, len', cap', ss, hcs, _, hl, hm, hz, hx, hcell, hsz⟩
  · simp [Value.cells] at hcs
    obtain ⟨rfl, rfl, rfl⟩ := hcs
    exact ⟨none, 0, 0, [], rfl, rfl, Nat.le_refl _, Nat.zero_le _, (fun s hs => by cases hs), RdV.nil _ _, fun _ => rfl⟩
  · simp [Value.cells] at hcs
    obtain ⟨rfl, rfl, rfl⟩ := hcs
    simp only [if_true] at hz
    refine ⟨some a, len, cap, ss.take len, rfl, by simp; omega, hl, by omega, fun s hs => hsz s (List.mem_of_mem_take hs), ?_, fun h => by cases h⟩
    intro i hi
    have hi' : i < len := by simp [sv] at hi; omega
    have hil : i < ss.length := by omega
    have hc := hcell i hil
    have h0 := hcell 0 (by omega)
    obtain ⟨b, off, spot⟩ := a
    have hspot : spot = none := by simpa [Addr.add] using World.cell?_spot h0
    subst hspot
    have e : (Addr.add ⟨b, off, none⟩ i) = ⟨b, off + i, none⟩ := by unfold Addr.add; split <;> simp_all
    rw [e] at hc
    refine ⟨b, off, rfl, ?_, ?_⟩
    · rcases Nat.lt_or_ge b W.heap.size with h1 | h1
      · exact h1
      · simp [World.cell?, Array.getElem?_eq_none h1] at hc
    · rw [hc, sv_get _ _ (by simp; omega)]
      simp [List.getD, hi', hil]

theorem hargs_keep {H : Type} {enc : TypeId × Value → H} {t : TypeId} {W W' : World} {v : Value} {d : DataW H} {ps : List MemPlace} (hr : Try.prog.readableRec t = true) (hrow : t < Try.prog.types.size)
    (h : DataW.Trod enc Try.prog W 0 (fun _ => true) true t v d ps) (hb : Below W.heap.size W W') (hlt : ∀ x ∈ ps, x.block < W.heap.size) :
    DataW.Trod enc Try.prog W' 0 (fun b => decide (b < W.heap.size)) true t v d ps := Below.trod laidOut hr hrow h hb hlt
end Go.Proofs.Ytndjdmgncjiggaa
/- An argument that is a tree: what the row hands is a tree that can be read. -/
namespace Go.Proofs.Ytndjdmgncjiggaa
open Go.ChangeShapes Go.WideShapes Go.ChangeAt Go.RowKit Go.Shelf
set_option linter.unusedVariables false
set_option linter.unusedSimpArgs false

theorem cells_u32' : Try.prog.cellsOf 59 = 1 := by kernel_rfl
theorem cells_string' : Try.prog.cellsOf 9 = 1 := by kernel_rfl
theorem cells_tree : Try.prog.cellsOf 31 = 8 := by kernel_rfl
theorem cells_num : Try.prog.cellsOf 29 = 3 := by kernel_rfl
theorem bytes_u32 : Try.prog.bytesOf 59 = 4 := by kernel_rfl
theorem bytes_string : Try.prog.bytesOf 9 = 16 := by kernel_rfl
theorem bytes_tree : Try.prog.bytesOf 31 = 120 := by kernel_rfl
theorem wf_u32' {n : Int} (h : (Lit.int .u32 n).wf = true) : 0 ≤ n ∧ n ≤ 4294967295 := by
  simpa [Lit.wf, IntKind.min, IntKind.max, IntKind.signed, IntKind.bits] using h
theorem reach_eq : reachBytes = 140737488351232 := rfl

section
variable {H : Type} {enc : TypeId × Value → H} {W : World}
/-- Limbs that lie in a field. -/
theorem limbs_in {v : Value} {fuel : Nat} {y : DataW H × List MemPlace}
    (hf : DataW.trod enc Try.prog W 0 (fun _ => true) true fuel 27 [v] = some y) (hz : ∀ n ∈ y.1.weights Try.prog 27, n ≤ reachBytes) :
    ∃ ad len cap xs, v = .slice ad len cap ∧ xs.length = len ∧ len ≤ cap ∧ Okl xs ∧ Rd W ad xs ∧ len ≤ 1000000000000000 := by
  rcases open_ints Try.underlying27 Try.underlying59 cells_u32' hf with ⟨hcs, hx⟩ | ⟨a, len', cap', zs, hcs, _, hl, hm, hzl, hx, hcell, hwz⟩
  · simp only [List.cons.injEq, and_true] at hcs
    exact ⟨none, 0, 0, [], hcs, rfl, Nat.le_refl _, Okl.nil, Rd.nil _ _, Nat.zero_le _⟩
  · simp only [List.cons.injEq, and_true] at hcs
    subst hcs
    simp only [if_true] at hzl
    refine ⟨some a, len', cap', (zs.take len').map Int.toNat, rfl, by simp; omega, hl, ?_, ?_, ?_⟩
    · intro x hx
      obtain ⟨z, hz1, rfl⟩ := List.mem_map.1 hx
      have := wf_u32' (hwz z (List.mem_of_mem_take hz1))
      rw [B32_eq]; omega
    · intro i hi
      have hi' : i < len' := by simp at hi; omega
      have hil : i < zs.length := by omega
      have hc := hcell i hil
      have h0 := hcell 0 (by omega)
      obtain ⟨b, off, spot⟩ := a
      have hspot : spot = none := by simpa [Addr.add] using World.cell?_spot h0
      subst hspot
      have e : (Addr.add ⟨b, off, none⟩ i) = ⟨b, off + i, none⟩ := by unfold Addr.add; split <;> simp_all
      rw [e] at hc
      refine ⟨b, off, rfl, ?_, ?_⟩
      · rcases Nat.lt_or_ge b W.heap.size with h1 | h1
        · exact h1
        · simp [World.cell?, Array.getElem?_eq_none h1] at hc
      · rw [hc]
        have hw := wf_u32' (hwz (zs.getD i 0) (by simp [List.getD, hil]))
        have e2 : ((zs.take len').map Int.toNat).getD i 0 = (zs.getD i 0).toNat := by
          simp [List.getD, hi', hil]
        rw [e2]
        congr 2; omega
    · rcases DataW.trod_slice Try.underlying27 hf with ⟨h0, _⟩ | ⟨a2, len2, cap2, elems, rest, n2, _, h0, hy, _, _, _, h1, _⟩
      · cases h0
      · cases h0
        rw [hy] at hz
        have := hz ((elems.length + rest.length) * Try.prog.bytesOf 59) (by simp [DataW.weights, Try.underlying27])
        rw [bytes_u32, reach_eq] at this
        omega
/-- Texts that lie in a field. -/
theorem texts_in {v : Value} {fuel : Nat} {y : DataW H × List MemPlace}
    (hf : DataW.trod enc Try.prog W 0 (fun _ => true) true fuel 22 [v] = some y) (hz : ∀ n ∈ y.1.weights Try.prog 22, n ≤ reachBytes) :
    ∃ ad len cap l, v = .slice ad len cap ∧ l.length = len ∧ len ≤ cap ∧ len ≤ 1000000000000000 ∧ (∀ s ∈ l, s.size ≤ maxLen) ∧ RdV W ad (sv l) := by
  rcases open_strings Try.underlying22 Try.underlying9 cells_string' hf with ⟨hcs, hx⟩ | ⟨a, len', cap', ss, hcs, _, hl, hm, hzl, hx, hcell, hsz⟩
  · simp only [List.cons.injEq, and_true] at hcs
    exact ⟨none, 0, 0, [], hcs, rfl, Nat.le_refl _, Nat.zero_le _, (fun s hs => by cases hs), RdV.nil _ _⟩
  · simp only [List.cons.injEq, and_true] at hcs
    subst hcs
    simp only [if_true] at hzl
    refine ⟨some a, len', cap', ss.take len', rfl, by simp; omega, hl, ?_, fun s hs => hsz s (List.mem_of_mem_take hs), ?_⟩
    · rcases DataW.trod_slice Try.underlying22 hf with ⟨h0, _⟩ | ⟨a2, len2, cap2, elems, rest, n2, _, h0, hy, _, _, _, h1, _⟩
      · cases h0
      · cases h0
        rw [hy] at hz
        have := hz ((elems.length + rest.length) * Try.prog.bytesOf 9) (by simp [DataW.weights, Try.underlying22])
        rw [bytes_string, reach_eq] at this
        omega
    · intro i hi
      have hi' : i < len' := by simp [sv] at hi; omega
      have hil : i < ss.length := by omega
      have hc := hcell i hil
      have h0 := hcell 0 (by omega)
      obtain ⟨b, off, spot⟩ := a
      have hspot : spot = none := by simpa [Addr.add] using World.cell?_spot h0
      subst hspot
      have e : (Addr.add ⟨b, off, none⟩ i) = ⟨b, off + i, none⟩ := by unfold Addr.add; split <;> simp_all
      rw [e] at hc
      refine ⟨b, off, rfl, ?_, ?_⟩
      · rcases Nat.lt_or_ge b W.heap.size with h1 | h1
        · exact h1
        · simp [World.cell?, Array.getElem?_eq_none h1] at hc
      · rw [hc, sv_get _ _ (by simp; omega)]
        simp [List.getD, hi', hil]
/-- A list out of what each place has. -/
theorem list_of {α : Type} {P : Nat → α → Prop} : ∀ n, (∀ i, i < n → ∃ x, P i x) → ∃ l : List α, l.length = n ∧ ∀ i (h : i < l.length), P i l[i] := by
  intro n
  induction n with
  | zero => intro _; exact ⟨[], rfl, fun i h => by simp at h⟩
  | succ n ih =>
    intro h
    obtain ⟨l, h1, h2⟩ := ih (fun i hi => h i (by omega))
    obtain ⟨x, hx⟩ := h n (by omega)
    refine ⟨l ++ [x], by simp [h1], fun i hi => ?_⟩
    by_cases hn : i < l.length
    · rw [List.getElem_append_left hn]; exact h2 i hn
    · have : i = l.length := by simp at hi; omega
      subst this
      simp; rw [h1]; exact hx
theorem weights_all_mem {P : Program} {e : TypeId} {d : DataW H} {n : Nat} (hn : n ∈ d.weights P e) : ∀ {l : List (DataW H)}, d ∈ l → n ∈ DataW.weightsAll P e l
  | [], h => by cases h
  | x :: l, h => by
    rw [DataW.weightsAll, List.mem_append]
    rcases List.mem_cons.1 h with rfl | h
    · exact .inl hn
    · exact .inr (weights_all_mem hn h)

set_option maxRecDepth 100000 in
theorem tree_in : ∀ (fuel : Nat) (cs : List Value) (y : DataW H × List MemPlace), DataW.trod enc Try.prog W 0 (fun _ => true) true fuel 31 cs = some y → (∀ n ∈ y.1.weights Try.prog 31, n ≤ reachBytes) →
    ∃ t : MT, cs = t.c.cells ∧ Rep W t := by
  intro fuel
  induction fuel using Nat.strongRecOn with
  | ind fuel ih =>
    intro cs y hy hz
    obtain ⟨xs, n, rfl, rfl, hcl, hxl, hfs⟩ := DataW.trod_struct Try.underlying31 hy
    rw [cells_tree] at hcl
    simp only [List.size_toArray, List.length_cons, List.length_nil] at hxl
    obtain ⟨c0, c1, c2, c3, c4, c5, c6, c7, rfl⟩ : ∃ c0 c1 c2 c3 c4 c5 c6 c7, cs = [c0, c1, c2, c3, c4, c5, c6, c7] := by
      match cs, hcl with
      | [c0, c1, c2, c3, c4, c5, c6, c7], _ => exact ⟨c0, c1, c2, c3, c4, c5, c6, c7, rfl⟩
    obtain ⟨x0, x1, x2, x3, x4, x5, rfl⟩ : ∃ x0 x1 x2 x3 x4 x5, xs = [x0, x1, x2, x3, x4, x5] := by
      match xs, hxl with
      | [x0, x1, x2, x3, x4, x5], _ => exact ⟨x0, x1, x2, x3, x4, x5, rfl⟩
    have h0 := hfs 0 _ rfl
    have h1 := hfs 1 _ rfl
    have h2 := hfs 2 _ rfl
    have h3 := hfs 3 _ rfl
    have h4 := hfs 4 _ rfl
    have h5 := hfs 5 _ rfl
    have hw : ∀ k, k ∈ DataW.weightsEach Try.prog [3, 4, 29, 9, 22, 23] [x0.1, x1.1, x2.1, x3.1, x4.1, x5.1] → k ≤ reachBytes := fun k hk => hz k (by
      simp only [DataW.weights, Try.underlying31]; exact hk)
    have hw2 : ∀ k ∈ x2.1.weights Try.prog 29, k ≤ reachBytes := fun k hk => hw k (by simp [DataW.weightsEach, hk])
    have hw4 : ∀ k ∈ x4.1.weights Try.prog 22, k ≤ reachBytes := fun k hk => hw k (by simp [DataW.weightsEach, hk])
    have hw5 : ∀ k ∈ x5.1.weights Try.prog 23, k ≤ reachBytes := fun k hk => hw k (by simp [DataW.weightsEach, hk])
    clear hz hw hfs hy
    replace h0 : DataW.trod enc Try.prog W 0 (fun _ => true) true n 3 [c0] = some x0 := h0
    replace h1 : DataW.trod enc Try.prog W 0 (fun _ => true) true n 4 [c1] = some x1 := h1
    replace h2 : DataW.trod enc Try.prog W 0 (fun _ => true) true n 29 [c2, c3, c4] = some x2 := h2
    replace h3 : DataW.trod enc Try.prog W 0 (fun _ => true) true n 9 [c5] = some x3 := h3
    replace h4 : DataW.trod enc Try.prog W 0 (fun _ => true) true n 22 [c6] = some x4 := h4
    replace h5 : DataW.trod enc Try.prog W 0 (fun _ => true) true n 23 [c7] = some x5 := h5
    obtain ⟨k, hk, _, hkw⟩ := DataW.trod_int Try.underlying3 h0
    obtain ⟨b, hb, _⟩ := DataW.trod_bool Try.underlying4 h1
    obtain ⟨s, hs, _, hsz⟩ := DataW.trod_string Try.underlying9 h3
    obtain ⟨ka, kn, kc, ks, hK, hk1, hk2, hk3, hk4, hk5⟩ := texts_in h4 hw4
    obtain ⟨zs, n2, rfl, rfl, _, hzl, hgs⟩ := DataW.trod_struct Try.underlying29 h2
    simp only [List.size_toArray, List.length_cons, List.length_nil] at hzl
    obtain ⟨z0, z1, z2, rfl⟩ : ∃ x0 x1 x2, zs = [x0, x1, x2] := by
      match zs, hzl with
      | [x0, x1, x2], _ => exact ⟨x0, x1, x2, rfl⟩
    have g0 := hgs 0 _ rfl
    have g1 := hgs 1 _ rfl
    have g2 := hgs 2 _ rfl
    have hwn : ∀ k ∈ z1.1.weights Try.prog 27, k ≤ reachBytes := fun k hk => hw2 k (by
      simp only [DataW.weights, Try.underlying29]
      show k ∈ DataW.weightsEach Try.prog [4, 27, 3] [z0.1, z1.1, z2.1]
      simp [DataW.weightsEach, hk])
    replace g0 : DataW.trod enc Try.prog W 0 (fun _ => true) true n2 4 [c2] = some z0 := g0
    replace g1 : DataW.trod enc Try.prog W 0 (fun _ => true) true n2 27 [c3] = some z1 := g1
    replace g2 : DataW.trod enc Try.prog W 0 (fun _ => true) true n2 3 [c4] = some z2 := g2
    obtain ⟨neg, hneg, _⟩ := DataW.trod_bool Try.underlying4 g0
    obtain ⟨ma, mn, mc, ms, hM, hm1, hm2, hm3, hm4, hm5⟩ := limbs_in g1 hwn
    obtain ⟨e, he, _, hew⟩ := DataW.trod_int Try.underlying3 g2
    simp only [List.cons.injEq, and_true] at hk hb hs hneg he
    subst hk hb hs hneg he hK hM
    have hkb := i64_bd hkw
    have heb := i64_bd hew
    obtain ⟨va, vn, vc, vs, hV, hv1, hv2, hv3, hv4, hv5⟩ : ∃ va vn vc, ∃ vs : List MT, c7 = .slice va vn vc ∧ vs.length = vn ∧ vn ≤ vc ∧ vn ≤ 1000000000000000 ∧ RdV W va (flat (vs.map MT.c)) ∧ ∀ t ∈ vs, Rep W t := by
      rcases DataW.trod_slice Try.underlying23 h5 with ⟨hcs, _⟩ | ⟨a, len, cap, elems, rest, n3, hn3, hcs, hy, _, hlc, _, hel, hat, _⟩
      · simp only [List.cons.injEq, and_true] at hcs
        exact ⟨none, 0, 0, [], hcs, rfl, Nat.le_refl _, Nat.zero_le _, RdV.nil _ _, nofun⟩
      · simp only [List.cons.injEq, and_true] at hcs
        rw [hy] at hw5
        have hwe : ∀ d ∈ elems, ∀ k ∈ d.1.weights Try.prog 31, k ≤ reachBytes := fun d hd k hk => hw5 k (by
          simp only [DataW.weights, Try.underlying23]
          rw [List.mem_cons, List.mem_append]
          exact .inr (.inl (weights_all_mem hk (List.mem_map_of_mem hd))))
        have hlen := hw5 ((elems.length + rest.length) * Try.prog.bytesOf 31) (by simp [DataW.weights, Try.underlying23])
        rw [bytes_tree, reach_eq] at hlen
        have each : ∀ i, i < len → ∃ t : MT, W.cells? 0 (a.add (i * 8)) 8 = some t.c.cells ∧ Rep W t := by
          intro i hi
          have h6 := hat i hi
          rw [cells_tree] at h6
          obtain ⟨y6, hy6⟩ : ∃ y6, elems[i]? = some y6 := ⟨elems[i], by simp [hel, hi]⟩
          rw [hy6] at h6
          obtain ⟨cs6, h7, h8⟩ := Option.bind_eq_some_iff.1 h6
          obtain ⟨t, rfl, ht⟩ := ih n3 (by omega) cs6 y6 h8 (hwe y6 (List.mem_of_getElem? hy6))
          exact ⟨t, h7, ht⟩
        obtain ⟨l, hl1, hl2⟩ := list_of len each
        refine ⟨some a, len, cap, l, hcs, hl1, hlc, by omega, ?_, ?_⟩
        · intro q hq
          rw [flat_len, List.length_map, hl1] at hq
          have hi : q / 8 < len := by omega
          obtain ⟨h9, _⟩ := hl2 (q / 8) (by omega)
          obtain ⟨_, _, h10⟩ := World.cells?_some h9
          have h11 := h10 (q % 8) (Nat.mod_lt _ (by decide))
          obtain ⟨bk, off, spot⟩ := a
          have h12 : (l[q / 8]'(by omega)).c.cells[q % 8]? = (flat (l.map MT.c))[q]? := by
            have := flat_get (l.map MT.c) (q / 8) (q % 8) (by simp; omega) (Nat.mod_lt _ (by decide))
            rw [show q / 8 * 8 + q % 8 = q by omega] at this
            rw [this]; simp
          rw [h12] at h11
          have h13 : ∃ v, (flat (l.map MT.c))[q]? = some v := ⟨(flat (l.map MT.c))[q]'(by rw [flat_len, List.length_map, hl1]; exact hq), by simp⟩
          obtain ⟨v13, h13⟩ := h13
          rw [h13] at h11 ⊢
          have hspot : spot = none := by
            obtain ⟨_, _, k1⟩ := World.cells?_some (hl2 0 (by omega)).1
            have k2 := k1 0 (by decide)
            exact World.cell?_spot (a := ⟨bk, off, spot⟩) k2
          subst hspot
          have e1 : (Addr.add (Addr.add ⟨bk, off, none⟩ (q / 8 * 8)) (q % 8)) = ⟨bk, off + q, none⟩ := by
            have a1 : (Addr.add ⟨bk, off, none⟩ (q / 8 * 8)) = ⟨bk, off + q / 8 * 8, none⟩ := by unfold Addr.add; split <;> simp_all
            have a2 : (Addr.add ⟨bk, off + q / 8 * 8, none⟩ (q % 8)) = ⟨bk, off + q / 8 * 8 + q % 8, none⟩ := by unfold Addr.add; split <;> simp_all
            rw [a1, a2]; congr 1; omega
          rw [e1] at h11
          refine ⟨bk, off, rfl, ?_, h11⟩
          rcases Nat.lt_or_ge bk W.heap.size with h1 | h1
          · exact h1
          · simp [World.cell?, Array.getElem?_eq_none h1] at h11
        · intro t ht
          obtain ⟨i, hi, rfl⟩ := List.mem_iff_getElem.1 ht
          exact (hl2 i hi).2
    subst hV
    refine ⟨.mk ⟨k, b, neg, ma, mn, mc, e, s, ka, kn, kc, va, vn, vc⟩ ms ks vs, rfl, Rep.mk ⟨hm1, hm2, hm3, hm4, hk1, hk2, hk5, hv1, hv2, hv4, ⟨hm5, hk3, hv3⟩, hsz, hk4, heb, hkb⟩ hv5⟩
set_option maxRecDepth 100000 in
/-- An argument that is a tree. -/
theorem tree_arg {base : Nat} {v : Value} {d : DataW H} {p : List MemPlace} (hok : Value.okWide Try.prog W .any base 31 v) (h : DataW.Trod enc Try.prog W 0 (fun _ => true) true 31 v d p)
    (hz : ∀ n ∈ d.weights Try.prog 31, n ≤ reachBytes) : ∃ t : MT, v = t.c.val ∧ Rep W t := by
  obtain ⟨cs, rfl, _⟩ := okWide_struct Try.underlying31 hok
  obtain ⟨fuel, hf⟩ := h
  obtain ⟨t, ht, hr⟩ := tree_in fuel _ _ hf hz
  refine ⟨t, ?_, hr⟩
  have : cs.toList = t.c.cells := ht
  rw [show cs = t.c.cells.toArray by rw [← this]]
  rfl
set_option maxRecDepth 100000 in
theorem trees_in (n : Nat) (c7 : Value) (x5 : DataW H × List MemPlace) (h5 : DataW.trod enc Try.prog W 0 (fun _ => true) true n 23 [c7] = some x5) (hw5 : ∀ k ∈ x5.1.weights Try.prog 23, k ≤ reachBytes) :
    ∃ va vn vc, ∃ vs : List MT, c7 = .slice va vn vc ∧ vs.length = vn ∧ vn ≤ vc ∧ vn ≤ 1000000000000000 ∧ RdV W va (flat (vs.map MT.c)) ∧ ∀ t ∈ vs, Rep W t := by
  rcases DataW.trod_slice Try.underlying23 h5 with ⟨hcs, _⟩ | ⟨a, len, cap, elems, rest, n3, hn3, hcs, hy, _, hlc, _, hel, hat, _⟩
  · simp only [List.cons.injEq, and_true] at hcs
    exact ⟨none, 0, 0, [], hcs, rfl, Nat.le_refl _, Nat.zero_le _, RdV.nil _ _, nofun⟩
  · simp only [List.cons.injEq, and_true] at hcs
    rw [hy] at hw5
    have hwe : ∀ d ∈ elems, ∀ k ∈ d.1.weights Try.prog 31, k ≤ reachBytes := fun d hd k hk => hw5 k (by
      simp only [DataW.weights, Try.underlying23]
      rw [List.mem_cons, List.mem_append]
      exact .inr (.inl (weights_all_mem hk (List.mem_map_of_mem hd))))
    have hlen := hw5 ((elems.length + rest.length) * Try.prog.bytesOf 31) (by simp [DataW.weights, Try.underlying23])
    rw [bytes_tree, reach_eq] at hlen
    have each : ∀ i, i < len → ∃ t : MT, W.cells? 0 (a.add (i * 8)) 8 = some t.c.cells ∧ Rep W t := by
      intro i hi
      have h6 := hat i hi
      rw [cells_tree] at h6
      obtain ⟨y6, hy6⟩ : ∃ y6, elems[i]? = some y6 := ⟨elems[i], by simp [hel, hi]⟩
      rw [hy6] at h6
      obtain ⟨cs6, h7, h8⟩ := Option.bind_eq_some_iff.1 h6
      obtain ⟨t, rfl, ht⟩ := tree_in n3 cs6 y6 h8 (hwe y6 (List.mem_of_getElem? hy6))
      exact ⟨t, h7, ht⟩
    obtain ⟨l, hl1, hl2⟩ := list_of len each
    refine ⟨some a, len, cap, l, hcs, hl1, hlc, by omega, ?_, ?_⟩
    · intro q hq
      rw [flat_len, List.length_map, hl1] at hq
      have hi : q / 8 < len := by omega
      obtain ⟨h9, _⟩ := hl2 (q / 8) (by omega)
      obtain ⟨_, _, h10⟩ := World.cells?_some h9
      have h11 := h10 (q % 8) (Nat.mod_lt _ (by decide))
      obtain ⟨bk, off, spot⟩ := a
      have h12 : (l[q / 8]'(by omega)).c.cells[q % 8]? = (flat (l.map MT.c))[q]? := by
        have := flat_get (l.map MT.c) (q / 8) (q % 8) (by simp; omega) (Nat.mod_lt _ (by decide))
        rw [show q / 8 * 8 + q % 8 = q by omega] at this
        rw [this]; simp
      rw [h12] at h11
      have h13 : ∃ v, (flat (l.map MT.c))[q]? = some v := ⟨(flat (l.map MT.c))[q]'(by rw [flat_len, List.length_map, hl1]; exact hq), by simp⟩
      obtain ⟨v13, h13⟩ := h13
      rw [h13] at h11 ⊢
      have hspot : spot = none := by
        obtain ⟨_, _, k1⟩ := World.cells?_some (hl2 0 (by omega)).1
        have k2 := k1 0 (by decide)
        exact World.cell?_spot (a := ⟨bk, off, spot⟩) k2
      subst hspot
      have e1 : (Addr.add (Addr.add ⟨bk, off, none⟩ (q / 8 * 8)) (q % 8)) = ⟨bk, off + q, none⟩ := by
        have a1 : (Addr.add ⟨bk, off, none⟩ (q / 8 * 8)) = ⟨bk, off + q / 8 * 8, none⟩ := by unfold Addr.add; split <;> simp_all
        have a2 : (Addr.add ⟨bk, off + q / 8 * 8, none⟩ (q % 8)) = ⟨bk, off + q / 8 * 8 + q % 8, none⟩ := by unfold Addr.add; split <;> simp_all
        rw [a1, a2]; congr 1; omega
      rw [e1] at h11
      refine ⟨bk, off, rfl, ?_, h11⟩
      rcases Nat.lt_or_ge bk W.heap.size with h1 | h1
      · exact h1
      · simp [World.cell?, Array.getElem?_eq_none h1] at h11
    · intro t ht
      obtain ⟨i, hi, rfl⟩ := List.mem_iff_getElem.1 ht
      exact (hl2 i hi).2

set_option maxRecDepth 100000 in
/-- An argument that is a list of trees. -/
theorem trees_arg {base : Nat} {v : Value} {d : DataW H} {p : List MemPlace} (hok : Value.okWide Try.prog W .any base 23 v) (h : DataW.Trod enc Try.prog W 0 (fun _ => true) true 23 v d p)
    (hz : ∀ n ∈ d.weights Try.prog 23, n ≤ reachBytes) : ∃ va vn vc, ∃ vs : List MT, v = .slice va vn vc ∧ vs.length = vn ∧ vn ≤ vc ∧ vn ≤ 1000000000000000 ∧ RdV W va (flat (vs.map MT.c)) ∧ ∀ t ∈ vs, Rep W t := by
  obtain ⟨a0, len, cap, rfl⟩ := okWide_slice Try.underlying23 hok
  obtain ⟨fuel, hf⟩ := h
  exact trees_in fuel _ (d, p) hf hz
end
end Go.Proofs.Ytndjdmgncjiggaa
