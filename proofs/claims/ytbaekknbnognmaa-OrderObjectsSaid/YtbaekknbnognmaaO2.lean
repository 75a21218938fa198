/- Names in order, by themselves: an insertion sort's round; keys that stand twice. -/
import Derived.Test.YtbaekknbnognmaaO1
namespace Go.Proofs.Ytbaekknbnognmaa
set_option linter.unusedVariables false
set_option linter.unusedSimpArgs false

section
variable {K : Type} [DecidableEq K]
/-- One more is put in, ahead of all that stand behind it. -/
theorem srt_insert {lt : K → K → Bool} (h : Sto lt) (key : Nat → K) (i k : Nat) (hk : k ≤ i) (hd : ∀ x ∈ (srt lt key 0 i).drop k, lt (key i) (key x) = true)
    (ht : ∀ y, 0 < k → (srt lt key 0 i)[k - 1]? = some y → lt (key i) (key y) = false) : (srt lt key 0 i).take k ++ i :: (srt lt key 0 i).drop k = srt lt key 0 (i + 1) := by
  have hs := srt_sorted h key 0 i
  have hl := srt_len lt key 0 i
  have hp := srt_perm lt key 0 i
  have hm : ∀ x, x ∈ srt lt key 0 i → x < i := fun x hx => by have := srt_mem.1 hx; omega
  generalize srt lt key 0 i = l at *
  apply srt_unique h
  · refine List.perm_middle.trans ?_
    rw [List.take_append_drop]
    refine (List.Perm.cons i hp).trans ?_
    rw [← List.range_eq_range', ← List.range_eq_range', List.range_succ]
    exact List.perm_append_singleton i _ |>.symm
  · have hs2 := hs
    rw [← List.take_append_drop k l, List.pairwise_append] at hs2
    obtain ⟨s1, s2, s3⟩ := hs2
    have hx : ∀ x ∈ l.take k, leI lt key x i = true := by
      intro x hx
      obtain ⟨q, hq, rfl⟩ := List.mem_iff_getElem.1 hx
      rw [List.length_take] at hq
      have hk0 : 0 < k := by omega
      have hlast := ht l[k - 1] hk0 (List.getElem?_eq_getElem (by omega))
      have hli : leI lt key l[k - 1] i = true := by rw [leI_lt h key (hm _ (List.getElem_mem _)), hlast]; rfl
      rw [List.getElem_take]
      rcases Nat.lt_or_ge q (k - 1) with h1 | h1
      · exact leI_tr h key _ _ _ (List.pairwise_iff_getElem.1 hs q (k - 1) (by omega) (by omega) h1) hli
      · obtain rfl : q = k - 1 := by omega
        exact hli
    rw [List.pairwise_append]
    refine ⟨s1, ?_, ?_⟩
    · rw [List.pairwise_cons]
      exact ⟨fun y hy => by rw [leI_iff]; exact .inl (hd y hy), s2⟩
    · intro x hx' y hy
      rcases List.mem_cons.1 hy with rfl | hy
      · exact hx x hx'
      · exact s3 x hx' y hy

/-- What is known of a sorted list. -/
theorem srt_next {lt : K → K → Bool} (h : Sto lt) (key : Nat → K) (n i : Nat) (hi : i + 1 < n) :
    lt (key ((srt lt key 0 n).getD (i + 1) 0)) (key ((srt lt key 0 n).getD i 0)) = false ∧ (key ((srt lt key 0 n).getD i 0) = key ((srt lt key 0 n).getD (i + 1) 0) → (srt lt key 0 n).getD i 0 < (srt lt key 0 n).getD (i + 1) 0) := by
  have hs := srt_sorted h key 0 n
  have hl := srt_len lt key 0 n
  have hp := srt_perm lt key 0 n
  have hnd : (srt lt key 0 n).Nodup := hp.nodup_iff.2 List.nodup_range'
  generalize srt lt key 0 n = l at *
  have g := List.pairwise_iff_getElem.1 hs i (i + 1) (by omega) (by omega) (by omega)
  have gn := List.pairwise_iff_getElem.1 hnd i (i + 1) (by omega) (by omega) (by omega)
  simp only [List.getD, List.getElem?_eq_getElem (show i < l.length by omega), List.getElem?_eq_getElem (show i + 1 < l.length by omega), Option.getD_some]
  rw [leI_iff] at g
  rcases g with g | ⟨g, g'⟩
  · exact ⟨h.asym g, fun e => by rw [e, h.irr] at g; cases g⟩
  · exact ⟨by rw [g]; exact h.irr _, fun _ => by omega⟩
theorem srt_lt (lt : K → K → Bool) (key : Nat → K) (n i : Nat) (hi : i < n) : (srt lt key 0 n).getD i 0 < n := by
  have hl := srt_len lt key 0 n
  have := @srt_mem K _ lt key 0 n ((srt lt key 0 n).getD i 0)
  have hm : (srt lt key 0 n).getD i 0 ∈ srt lt key 0 n := by
    simp only [List.getD, List.getElem?_eq_getElem (show i < (srt lt key 0 n).length by omega), Option.getD_some]; exact List.getElem_mem _
  have := this.1 hm; omega
theorem srt_nodup (lt : K → K → Bool) (key : Nat → K) (n i j : Nat) (hi : i < n) (hj : j < n) (e : (srt lt key 0 n).getD i 0 = (srt lt key 0 n).getD j 0) : i = j := by
  have hl := srt_len lt key 0 n
  have hnd : (srt lt key 0 n).Nodup := (srt_perm lt key 0 n).nodup_iff.2 List.nodup_range'
  generalize srt lt key 0 n = l at *
  simp only [List.getD, List.getElem?_eq_getElem (show i < l.length by omega), List.getElem?_eq_getElem (show j < l.length by omega), Option.getD_some] at e
  exact (List.getElem_inj hnd).1 e
theorem srt_has (lt : K → K → Bool) (key : Nat → K) (n x : Nat) (hx : x < n) : ∃ p, p < n ∧ (srt lt key 0 n).getD p 0 = x := by
  have hl := srt_len lt key 0 n
  have hm : x ∈ srt lt key 0 n := srt_mem.2 ⟨Nat.zero_le _, by omega⟩
  obtain ⟨p, hp, rfl⟩ := List.mem_iff_getElem.1 hm
  exact ⟨p, by omega, by simp [List.getD, hp]⟩

end
section
variable {K : Type}
/-- The lowest place at which a key stands again, found among neighbours of the sorted, as far as place m. -/
def Low (key : Nat → K) (S : List Nat) (m lo : Nat) (f : Bool) : Prop :=
  (f = false → lo = 0 ∧ ∀ i, i + 1 < m → key (S.getD i 0) ≠ key (S.getD (i + 1) 0)) ∧
  (f = true → (∃ i, i + 1 < m ∧ key (S.getD i 0) = key (S.getD (i + 1) 0) ∧ lo = S.getD (i + 1) 0) ∧ ∀ i, i + 1 < m → key (S.getD i 0) = key (S.getD (i + 1) 0) → lo ≤ S.getD (i + 1) 0)
theorem Low.start (key : Nat → K) (S : List Nat) : Low key S 1 0 false := ⟨fun _ => ⟨rfl, fun i hi => absurd hi (by omega)⟩, fun h => by cases h⟩
theorem Low.keep {key : Nat → K} {S : List Nat} {m lo : Nat} {f : Bool} (h : Low key S (m + 1) lo f) (hn : key (S.getD m 0) ≠ key (S.getD (m + 1) 0) ∨ (f = true ∧ lo ≤ S.getD (m + 1) 0)) : Low key S (m + 2) lo f := by
  refine ⟨fun hf => ⟨(h.1 hf).1, fun i hi => ?_⟩, fun hf => ⟨?_, fun i hi he => ?_⟩⟩
  · by_cases e : i = m
    · subst e; rcases hn with hn | ⟨hn, _⟩
      · exact hn
      · rw [hn] at hf; cases hf
    · exact (h.1 hf).2 i (by omega)
  · obtain ⟨i, hi, h1, h2⟩ := (h.2 hf).1
    exact ⟨i, by omega, h1, h2⟩
  · by_cases e : i = m
    · subst e; rcases hn with hn | ⟨_, hn⟩
      · exact absurd he hn
      · exact hn
    · exact (h.2 hf).2 i (by omega) he
theorem Low.take {key : Nat → K} {S : List Nat} {m lo : Nat} {f : Bool} (h : Low key S (m + 1) lo f) (he : key (S.getD m 0) = key (S.getD (m + 1) 0)) (hl : f = false ∨ S.getD (m + 1) 0 < lo) : Low key S (m + 2) (S.getD (m + 1) 0) true := by
  refine ⟨(fun h => by cases h), fun _ => ⟨⟨m, by omega, he, rfl⟩, fun i hi hie => ?_⟩⟩
  by_cases e : i = m
  · subst e; exact Nat.le_refl _
  · rcases hl with hl | hl
    · exact absurd hie ((h.1 hl).2 i (by omega))
    · cases hf : f
      · exact absurd hie ((h.1 hf).2 i (by omega))
      · have := (h.2 hf).2 i (by omega) hie; omega

/-- The lowest place at which a key stands that stood ahead of it. -/
def Twc (key : Nat → K) (n lo : Nat) (f : Bool) : Prop :=
  (f = false → lo = 0 ∧ ∀ j, j < n → ∀ i, i < j → key i ≠ key j) ∧ (f = true → lo < n ∧ (∃ i, i < lo ∧ key i = key lo) ∧ ∀ j, j < lo → ∀ i, i < j → key i ≠ key j)
theorem twc_unique {key : Nat → K} {n lo lo' : Nat} {f f' : Bool} (h : Twc key n lo f) (k : Twc key n lo' f') : lo = lo' ∧ f = f' := by
  cases f <;> cases f'
  · exact ⟨by rw [(h.1 rfl).1, (k.1 rfl).1], rfl⟩
  · obtain ⟨k1, ⟨i, k2, k3⟩, _⟩ := k.2 rfl
    exact absurd k3 ((h.1 rfl).2 lo' k1 i k2)
  · obtain ⟨k1, ⟨i, k2, k3⟩, _⟩ := h.2 rfl
    exact absurd k3 ((k.1 rfl).2 lo k1 i k2)
  · obtain ⟨h1, ⟨i, h2, h3⟩, h4⟩ := h.2 rfl
    obtain ⟨k1, ⟨j, k2, k3⟩, k4⟩ := k.2 rfl
    refine ⟨?_, rfl⟩
    rcases Nat.lt_trichotomy lo lo' with e | e | e
    · exact absurd h3 (k4 lo e i h2)
    · exact e
    · exact absurd k3 (h4 lo' e j k2)
end
section
variable {K : Type} [DecidableEq K]
/-- A key that stood ahead stands beside it among the sorted. -/
theorem twin_near {lt : K → K → Bool} (h : Sto lt) (key : Nat → K) {n i j : Nat} (hj : j < n) (hi : i < j) (e : key i = key j) :
    ∃ p, p + 1 < n ∧ (srt lt key 0 n).getD (p + 1) 0 = j ∧ key ((srt lt key 0 n).getD p 0) = key j := by
  obtain ⟨p, hp, ep⟩ := srt_has lt key n j hj
  obtain ⟨q, hq, eq⟩ := srt_has lt key n i (by omega)
  have hs := srt_sorted h key 0 n
  have hl := srt_len lt key 0 n
  generalize srt lt key 0 n = l at *
  have gp : l[p]'(by omega) = j := by rw [← ep]; simp [List.getD, show p < l.length by omega]
  have gq : l[q]'(by omega) = i := by rw [← eq]; simp [List.getD, show q < l.length by omega]
  have hij : leI lt key i j = true := by rw [leI_iff]; exact .inr ⟨e, by omega⟩
  have hqp : q < p := by
    rcases Nat.lt_trichotomy q p with h1 | h1 | h1
    · exact h1
    · subst h1; rw [ep] at eq; omega
    · have g := List.pairwise_iff_getElem.1 hs p q (by omega) (by omega) h1
      rw [gp, gq] at g
      have := leI_anti h key hij g; omega
  obtain ⟨r, rfl⟩ : ∃ r, p = r + 1 := ⟨p - 1, by omega⟩
  refine ⟨r, hp, ep, ?_⟩
  have er : l.getD r 0 = l[r]'(by omega) := by simp [List.getD, show r < l.length by omega]
  rw [er]
  have g1 := List.pairwise_iff_getElem.1 hs r (r + 1) (by omega) (by omega) (by omega)
  rw [gp, leI_iff] at g1
  have g0 : lt (key i) (key l[r]) = true ∨ key i = key l[r] := by
    rcases Nat.lt_or_ge q r with h1 | h1
    · have g := List.pairwise_iff_getElem.1 hs q r (by omega) (by omega) h1
      rw [gq, leI_iff] at g
      exact g.imp id And.left
    · obtain rfl : q = r := by omega
      exact .inr (by rw [gq])
  rcases g1 with g1 | ⟨g1, _⟩
  · rcases g0 with g0 | g0
    · have := h.tr _ _ _ g0 g1; rw [e, h.irr] at this; cases this
    · rw [← g0, e]
  · exact g1
theorem Low.twc {lt : K → K → Bool} (h : Sto lt) {key : Nat → K} {n lo : Nat} {f : Bool} (hl : Low key (srt lt key 0 n) n lo f) : Twc key n lo f := by
  refine ⟨fun hf => ⟨(hl.1 hf).1, fun j hj i hi e => ?_⟩, fun hf => ?_⟩
  · obtain ⟨p, hp, e1, e2⟩ := twin_near h key hj hi e
    exact (hl.1 hf).2 p hp (by rw [e2, e1])
  · obtain ⟨⟨p, hp, e1, e2⟩, hmin⟩ := hl.2 hf
    have hn := srt_next h key n p hp
    refine ⟨by rw [e2]; exact srt_lt lt key n _ hp, ⟨_, by rw [e2]; exact hn.2 e1, by rw [e2]; exact e1⟩, fun j hj i hi e => ?_⟩
    obtain ⟨q, hq, f1, f2⟩ := twin_near h key (show j < n by have := srt_lt lt key n _ hp; omega) hi e
    have := hmin q hq (by rw [f2, f1])
    rw [f1] at this; omega
end
end Go.Proofs.Ytbaekknbnognmaa
