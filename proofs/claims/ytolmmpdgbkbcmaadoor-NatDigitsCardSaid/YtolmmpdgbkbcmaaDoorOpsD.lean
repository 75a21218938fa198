/- append of so many noughts (append(x, make([]uint32, n)...)) to an own list of limbs, as a law of the walk. -/
import Derived.Test.YtolmmpdgbkbcmaaDoorSame
import Derived.Lib.AppendZeros
import Derived.Lib.AppendZerosOnto
namespace Go.Proofs.YtolmmpdgbkbcmaaDoor
open Go.RowKit
set_option linter.unusedVariables false

theorem zero_cells (k : Nat) : Builtin.zeroCells (Value.cells (.int .u32 0)) k = ((List.replicate k 0).map lv).toArray := by
  apply Array.ext'
  simp only [Builtin.zeroCells]
  apply List.ext_getElem
  · simp [Value.cells]
  · intro i h1 h2; simp [Value.cells, lv, Nat.mod_one]

theorem run_append_zeros_room {P : Program} (w : World) (t tn ty e : TypeId) (i : TypeInfo) (z : Value) (kn : IntKind) (ht : P.underlying t = some (.slice e)) (htn : P.underlying tn = some (.int kn)) (hi : P.info? e = some i) (hz : i.zero = some z) (hs1 : i.size = 1) (hb4 : i.bytes = 4)
    (g sLen sCap : Nat) (cur : Array Value) (hg : w.heap[g]? = some (.cells cur e (0, 0))) (k : Nat) (hk : k ≤ 1000) (hk0 : 0 < k) (news : List Value) (hzc : Builtin.zeroCells z.cells k = news.toArray) (hl : news.length = k) (h1 : ∀ u ∈ news, u.oneCell' = true)
    (hroom : sLen + k ≤ sCap) (hfit : sLen + k ≤ cur.size) :
    (Builtin.append_ #[t, tn] ty #[.slice (some ⟨g, 0, none⟩) sLen sCap, .int .i64 k]).run P w =
      .ok (.slice (some ⟨g, 0, none⟩) (sLen + k) sCap) (w.setRow g (cur.toList.take sLen ++ news ++ cur.toList.drop (sLen + k)).toArray) := by
  have hw : IntKind.i64.wrap (k : Int) = k := by rw [IntKind.wrap_i64]; omega
  have hneg : ¬ ((k : Int) < 0) := by omega
  have h48i : ¬ (281474976710656 < (k : Int) * 4) := by omega
  have hst := run_storeCells_at P g sLen e news 0 cur w hg (by simpa [hl] using hfit) h1
  simp only [Nat.add_zero, hl] at hst
  simp [Builtin.append_, run_underlying ht, run_underlying htn, sizeOf, typeInfo, zeroValue, hi, hz, hs1, hb4, asInt, asIntOf, hw, hneg, h48i, Nat.pos_iff_ne_zero.1 hk0, hroom, hzc, Addr.add_lit, hst]

theorem run_append_zeros_none {P : Program} (w : World) (t tn ty e : TypeId) (i : TypeInfo) (kn : IntKind) (ht : P.underlying t = some (.slice e)) (htn : P.underlying tn = some (.int kn)) (hi : P.info? e = some i)
    (v : Value) (h : v = .slice none 0 0 ∨ ∃ g n cap, v = .slice (some ⟨g, 0, none⟩) n cap ∧ n ≤ cap) :
    (Builtin.append_ #[t, tn] ty #[v, .int .i64 0]).run P w = .ok v w := by
  have hw : IntKind.i64.wrap 0 = 0 := by decide
  rcases h with rfl | ⟨g, n, cap, rfl, hn⟩
  · simp [Builtin.append_, run_underlying ht, run_underlying htn, sizeOf, typeInfo, hi, asInt, asIntOf, hw]
  · simp [Builtin.append_, run_underlying ht, run_underlying htn, sizeOf, typeInfo, hi, asInt, asIntOf, hw, hn, storeCells]

theorem run_append_zeros (w : World) (ty : TypeId) (B : Nat) (v : Value) (xs : List Nat) (k : Nat) (hown : Own B w v xs) (hk : k ≤ 1000) (hl : xs.length ≤ 1000000000) (hB : B ≤ w.heap.size) :
    ∃ v' w', (Builtin.append_ #[22, 3] ty #[v, .int .i64 k]).run Tryd.prog w = .ok v' w' ∧ Own B w' v' (xs ++ List.replicate k 0) ∧ Below B w w' := by
  obtain ⟨i0, hi, hz0, hz1, hz2⟩ := info_parts info_u32
  have hzc := zero_cells k
  have hok := hown.1.append (Okl.replicate k)
  by_cases hk0 : k = 0
  · subst hk0
    refine ⟨v, w, run_append_zeros_none w _ _ ty 23 i0 .i64 Tryd.underlying22 Tryd.underlying3 hi v ?_, by simpa using hown, Below.refl _ _⟩
    obtain ⟨_, ⟨rfl, _⟩ | ⟨g, cap, r, rfl, _, _, hc, _⟩⟩ := hown
    · exact .inl rfl
    · exact .inr ⟨g, _, cap, rfl, by omega⟩
  · have grown : ∀ (old : Nat), Own B (w.drew.alloc (.cells ((xs.map lv).toArray ++ Builtin.zeroCells (Value.cells (.int .u32 0)) k ++ Builtin.zeroCells (Value.cells (.int .u32 0)) (grownCap w (xs.length + k) old 23 - (xs.length + k))) 23))
        (.slice (some ⟨w.heap.size, 0, none⟩) (xs.length + k) (grownCap w (xs.length + k) old 23)) (xs ++ List.replicate k 0) ∧
        Below B w (w.drew.alloc (.cells ((xs.map lv).toArray ++ Builtin.zeroCells (Value.cells (.int .u32 0)) k ++ Builtin.zeroCells (Value.cells (.int .u32 0)) (grownCap w (xs.length + k) old 23 - (xs.length + k))) 23)) := by
      intro old
      have hge := grownCap_ge w (xs.length + k) old 23
      have hcm : grownCap w (xs.length + k) old 23 ≤ maxLen := grownCap_le_maxLen w (xs.length + k) old 23 (by unfold maxLen; omega)
      generalize grownCap w (xs.length + k) old 23 = G at *
      refine ⟨⟨hok, .inr ⟨w.heap.size, G, (List.replicate (G - (xs.length + k)) 0).map lv, ?_, hB, ?_, ?_, hcm⟩⟩, ?_⟩
      · simp
      · unfold Blk
        have e : (List.map lv (xs ++ List.replicate k 0) ++ (List.replicate (G - (xs.length + k)) 0).map lv).toArray = (xs.map lv).toArray ++ Builtin.zeroCells (Value.cells (.int .u32 0)) k ++ Builtin.zeroCells (Value.cells (.int .u32 0)) (G - (xs.length + k)) := by
          rw [zero_cells, zero_cells, List.map_append]; simp
        rw [e]
        exact heap_alloc_new w.drew _
      · simp; omega
      · exact (below_drewN' (Below.refl _ _) 1).alloc hB _
    have h1 : ∀ u ∈ (List.replicate k 0).map lv, u.oneCell' = true := by
      intro u hu
      obtain ⟨x, _, rfl⟩ := List.mem_map.1 hu
      rfl
    have hown2 := hown
    obtain ⟨_, ⟨rfl, rfl⟩ | ⟨g, cap, r, rfl, hg, hb, hc, hm⟩⟩ := hown
    · have hr := Lib.run_append_grow_zeros (P := Tryd.prog) w 22 3 ty 23 i0 (.int .u32 0) .i64 .i64 Tryd.underlying22 Tryd.underlying3 hi hz0 none 0 0 [] (by simp [Builtin.firstCells]) k (by omega) (by omega) (by omega) (by omega) (by rw [hz2]; omega) (by rw [hz2]; exact growslice_fits (by omega) (by omega))
      have hgr := grown 0
      simp only [List.length_nil, Nat.zero_add, List.map_nil] at hgr
      simp only [Nat.zero_add] at hr
      exact ⟨_, _, hr, hgr.1, hgr.2⟩
    · by_cases hroom : xs.length + k ≤ cap
      · have hr := run_append_zeros_room (P := Tryd.prog) w 22 3 ty 23 i0 (.int .u32 0) .i64 Tryd.underlying22 Tryd.underlying3 hi hz0 hz1 hz2 g xs.length cap _ hb k hk (by omega) ((List.replicate k 0).map lv) hzc (by simp) h1 hroom (by simp; omega)
        refine ⟨_, _, hr, ?_, ?_⟩
        · refine ⟨hok, .inr ⟨g, cap, r.drop k, by simp, hg, ?_, by simp; omega, hm⟩⟩
          unfold Blk
          rw [setRow_heap w g _ _ _ _ hb]
          have e : (List.map lv xs ++ r).toArray.toList.take xs.length ++ (List.replicate k 0).map lv ++ (List.map lv xs ++ r).toArray.toList.drop (xs.length + k) = List.map lv (xs ++ List.replicate k 0) ++ r.drop k := by
            rw [List.map_append]
            simp only [List.append_assoc]
            rw [List.take_left' (by simp), List.drop_append, List.drop_eq_nil_of_le (by simp)]
            simp
          rw [e]
        · exact ⟨rfl, rfl, rfl, by simp, fun j hj => setRow_other w g j _ (by omega)⟩
      · have hr := Lib.run_append_grow_zeros (P := Tryd.prog) w 22 3 ty 23 i0 (.int .u32 0) .i64 .i64 Tryd.underlying22 Tryd.underlying3 hi hz0 (some ⟨g, 0, none⟩) xs.length cap (xs.map lv) (run_firstCells_some (P := Tryd.prog) (w := w.drew) i0.size xs.length ⟨g, 0, none⟩ xs.length cap (xs.map lv) (by simp [hz1]) (hown2.row.cells rfl)) k (by omega) (by omega) (by omega) (by omega) (by rw [hz2]; omega) (by rw [hz2]; exact growslice_fits (by omega) (by omega))
        have hgr := grown cap
        exact ⟨_, _, hr, hgr.1, hgr.2⟩

/-- The law of the walk. -/
theorem wpl_append_zeros {w : World} {ops : Array Oper} {rest : List Oper} {o : Oper} {a : Act} {Q : Exit → Act → World → Prop} (hgd : o.guard = none) (s x : Operand)
    (ho : o.op = .call { callee := .builtin .append, args := #[s, x], argTypes := #[22, 3] }) (B : Nat) (v : Value) (xs : List Nat) (hs : a.eval s = v) (hown : Own B w v xs)
    (k : Nat) (hx : a.eval x = .int .i64 (k : Int)) (hk : k ≤ 1000) (hl : xs.length ≤ 1000000000) (hB : B ≤ w.heap.size)
    (h : ∀ v' w', Own B w' v' (xs ++ List.replicate k 0) → Below B w w' → wpList Tryd.prog ops Q rest (a.put o.dst v') w') : wpList Tryd.prog ops Q (o :: rest) a w := by
  obtain ⟨v', w', hr, h1, h2⟩ := run_append_zeros w o.type B v xs k hown hk hl hB
  exact Lib.wpList_append_run w hgd s x _ _ ho v (.int .i64 (k : Int)) hs hx v' w' hr (h v' w' h1 h2)
end Go.Proofs.YtolmmpdgbkbcmaaDoor
