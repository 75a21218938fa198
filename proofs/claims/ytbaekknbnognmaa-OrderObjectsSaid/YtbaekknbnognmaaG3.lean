/- Members in any order make one object: plain lists, no program. -/
import Derived.Test.YtbaekknbnognmaaG2
namespace Go.Proofs.Ytbaekknbnognmaa
set_option linter.unusedVariables false
set_option linter.unusedSimpArgs false

theorem keyB_get (l : List ByteArray) (i : Nat) (hi : i < l.length) : keyB l i = l[i].toList := by unfold keyB; simp [List.getD, hi]
theorem toList_inj {a b : ByteArray} (h : a.toList = b.toList) : a = b := by
  rw [ByteArray.toList_eq, ByteArray.toList_eq] at h
  exact WideShapes.bytes_inj h
/-- No key stands twice just where the texts are all unlike. -/
theorem twc_nodup {l : List ByteArray} {n lo : Nat} {f : Bool} (hn : l.length = n) (h : Twc (keyB l) n lo f) : f = false ↔ l.Nodup := by
  constructor
  · intro hf
    rw [List.nodup_iff_pairwise_ne, List.pairwise_iff_getElem]
    intro i j hi hj hij e
    have := (h.1 hf).2 j (by omega) i hij
    rw [keyB_get l i hi, keyB_get l j hj, e] at this
    exact this rfl
  · intro hd
    cases f
    · rfl
    · obtain ⟨h1, ⟨i, h2, h3⟩, _⟩ := h.2 rfl
      rw [keyB_get l i (by omega), keyB_get l lo (by omega)] at h3
      have := (List.getElem_inj hd).1 (toList_inj h3)
      omega
theorem pickB_len (l : List ByteArray) (S : List Nat) : (pickB l S).length = S.length := by simp [pickB]
theorem pickB_perm {l : List ByteArray} {n : Nat} (hn : l.length = n) : (pickB l (srt Op.bytesLess (keyB l) 0 n)).Perm l := by
  have h := (srt_perm Op.bytesLess (keyB l) 0 n).map fun p => l.getD p ByteArray.empty
  refine h.trans ?_
  have : (List.range' 0 n).map (fun p => l.getD p ByteArray.empty) = l := by
    apply List.ext_getElem
    · simp [hn]
    · intro i h1 h2
      simp [List.getD, h2]
  rw [this]
theorem pickB_get (l : List ByteArray) (S : List Nat) (i : Nat) (hi : i < S.length) : (pickB l S).getD i ByteArray.empty = l.getD (S.getD i 0) ByteArray.empty := by
  simp [pickB, List.getD, hi]
/-- The names rise. -/
theorem pickB_rise {l : List ByteArray} {n lo : Nat} (hn : l.length = n) (h : Twc (keyB l) n lo false) (i : Nat) (hi : i + 1 < n) :
    Op.bytesLess ((pickB l (srt Op.bytesLess (keyB l) 0 n)).getD i ByteArray.empty).toList ((pickB l (srt Op.bytesLess (keyB l) 0 n)).getD (i + 1) ByteArray.empty).toList = true := by
  have hl := srt_len Op.bytesLess (keyB l) 0 n
  have h1 := srt_next sto_bytes (keyB l) n i hi
  rw [pickB_get _ _ _ (by omega), pickB_get _ _ _ (by omega), keyB_def, keyB_def]
  rcases bytesLess_tot (keyB l ((srt Op.bytesLess (keyB l) 0 n).getD i 0)) (keyB l ((srt Op.bytesLess (keyB l) 0 n).getD (i + 1) 0)) with h2 | h2 | h2
  · exact h2
  · exact absurd h2 ((h.1 rfl).2 _ (srt_lt _ _ _ _ hi) _ (h1.2 h2))
  · rw [h1.1] at h2; cases h2
theorem pickB_sorted {l : List ByteArray} {n : Nat} (hn : l.length = n) : (pickB l (srt Op.bytesLess (keyB l) 0 n)).Pairwise fun a b => Op.bytesLess a.toList b.toList = true ∨ a = b := by
  unfold pickB
  rw [List.pairwise_map]
  refine (srt_sorted sto_bytes (keyB l) 0 n).imp ?_
  intro a b h
  rw [leI_iff] at h
  rcases h with h | ⟨h, _⟩
  · exact .inl h
  · exact .inr (toList_inj h)
/-- Turned about they are the same. -/
theorem pickB_turn {l m : List ByteArray} {n : Nat} (hn : l.length = n) (hp : m.Perm l) : pickB m (srt Op.bytesLess (keyB m) 0 n) = pickB l (srt Op.bytesLess (keyB l) 0 n) := by
  have hm : m.length = n := by rw [hp.length_eq, hn]
  refine List.Perm.eq_of_pairwise (le := fun a b => Op.bytesLess a.toList b.toList = true ∨ a = b) ?_ (pickB_sorted hm) (pickB_sorted hn) ((pickB_perm hm).trans (hp.trans (pickB_perm hn).symm))
  intro a b _ _ h1 h2
  rcases h1 with h1 | h1
  · rcases h2 with h2 | h2
    · have := bytesLess_tr _ _ _ h1 h2; rw [bytesLess_irr] at this; cases this
    · exact h2.symm
  · exact h1
theorem turn_perm (l : List ByteArray) (k : Nat) : (l.drop k ++ l.take k).Perm l := by
  refine List.perm_append_comm.trans ?_
  rw [List.take_append_drop]
/-- Texts as values. -/
def textC (s : ByteArray) : Cel := ⟨4, false, false, none, 0, 0, 0, s, none, 0, 0, none, 0, 0⟩
theorem pick_text (l : List ByteArray) (S : List Nat) (h : ∀ p ∈ S, p < l.length) : pickC (l.map textC) S = (pickB l S).map textC := by
  unfold pickC pickB
  rw [List.map_map]
  apply List.map_congr_left
  intro p hp
  simp [List.getD, h p hp]
theorem flat_app (a b : List Cel) : flat (a ++ b) = flat a ++ flat b := by simp [flat]
theorem flat_one (c : Cel) : flat [c] = c.cells := by simp [flat]
theorem cells_len (c : Cel) : c.cells.length = 8 := rfl
theorem flat_drop (l : List Cel) (k : Nat) : flat (l.drop k) = (flat l).drop (k * 8) := by
  induction l generalizing k with
  | nil => simp [flat]
  | cons c l ih =>
    cases k with
    | zero => simp
    | succ k =>
      rw [List.drop_succ_cons, ih]
      simp only [flat, List.flatMap_cons]
      rw [show (k + 1) * 8 = c.cells.length + k * 8 by rw [cells_len]; omega, List.drop_length_add_append]
theorem flat_take (l : List Cel) (k : Nat) : flat (l.take k) = (flat l).take (k * 8) := by
  induction l generalizing k with
  | nil => simp [flat]
  | cons c l ih =>
    cases k with
    | zero => simp [flat]
    | succ k =>
      rw [List.take_succ_cons]
      have := ih k
      simp only [flat, List.flatMap_cons] at this ⊢
      rw [this, show (k + 1) * 8 = c.cells.length + k * 8 by rw [cells_len]; omega, List.take_length_add_append]
theorem flat_one' (l : List Cel) : ∀ u ∈ flat l, u.oneCell' = true := by
  intro u hu
  simp only [flat, List.mem_flatMap] at hu
  obtain ⟨c, _, hc⟩ := hu
  simp only [Cel.cells, List.mem_cons, List.not_mem_nil, or_false] at hc
  rcases hc with rfl | rfl | rfl | rfl | rfl | rfl | rfl | rfl <;> rfl
end Go.Proofs.Ytbaekknbnognmaa
