/- Texts of the claim. -/
import Derived.Test.YtijaphbccnadbaaGreatDoorVJ
namespace Go.Proofs.YtijaphbccnadbaaGreatDoor
open Go.Shelf Go.RowKit Go.Lib Go.Sort
set_option linter.unusedVariables false
set_option linter.unusedSimpArgs false
def HeadB (x : UInt8) : Prop := blanksL.contains x = false ∧ x ≠ 93 ∧ x ≠ 125 ∧ x ≠ 44 ∧ x ≠ 58
theorem digit_head {x : Nat} (h : x = 45 ∨ 48 ≤ x ∧ x ≤ 57) : HeadB (UInt8.ofNat x) ∧ ((UInt8.ofNat x).toNat = 45 ∨ 48 ≤ (UInt8.ofNat x).toNat ∧ (UInt8.ofNat x).toNat ≤ 57) := by
  have : x = 45 ∨ x = 48 ∨ x = 49 ∨ x = 50 ∨ x = 51 ∨ x = 52 ∨ x = 53 ∨ x = 54 ∨ x = 55 ∨ x = 56 ∨ x = 57 := by omega
  unfold HeadB
  rcases this with rfl | rfl | rfl | rfl | rfl | rfl | rfl | rfl | rfl | rfl | rfl <;> decide
theorem exp_head {d : List Nat} {x : Int} {y : Nat} {ys : List Nat} (h : d = y :: ys) : ∃ zs, expTxt d x = y :: zs := by
  subst h; unfold expTxt; exact ⟨_, rfl⟩
theorem size_head {d : List Nat} {e : Int} (h : Okd d) (hp : 0 < d.length) : ∃ y ys, sizeTxt d e = y :: ys ∧ 48 ≤ y ∧ y ≤ 57 := by
  obtain ⟨y, ys, rfl⟩ : ∃ y ys, d = y :: ys := List.exists_cons_of_length_pos hp
  have hy := h y (by simp)
  unfold sizeTxt
  split
  · obtain ⟨zs, hz⟩ := exp_head (d := y :: ys) (x := ((y :: ys).length : Int) + e - 1) rfl
    exact ⟨y, zs, hz, hy⟩
  · split
    · exact ⟨48, _, rfl, by decide, by decide⟩
    · split
      · rename_i h1 h2 h3
        obtain ⟨k, hk⟩ : ∃ k, (((y :: ys).length : Int) + e).toNat = k + 1 := ⟨(((y :: ys).length : Int) + e).toNat - 1, by omega⟩
        rw [hk]
        exact ⟨y, _, rfl, hy⟩
      · exact ⟨y, _, rfl, hy⟩
theorem num_head (neg : Bool) (N : Nat) (e : Int) : ∃ y ys, numTxt neg N e = y :: ys ∧ (y = 45 ∨ 48 ≤ y ∧ y ≤ 57) := by
  unfold numTxt
  split
  · exact ⟨48, [], rfl, .inr ⟨by decide, by decide⟩⟩
  · cases neg
    · obtain ⟨y, ys, h1, h2⟩ := size_head (e := e) (dec_ok N) (dec_pos N)
      exact ⟨y, ys, h1, .inr h2⟩
    · exact ⟨45, _, rfl, .inl rfl⟩
theorem numB_head (neg : Bool) (N : Nat) (e : Int) : ∃ x r, numB neg N e = x :: r ∧ HeadB x ∧ (x.toNat = 45 ∨ 48 ≤ x.toNat ∧ x.toNat ≤ 57) := by
  obtain ⟨y, ys, h1, h2⟩ := num_head neg N e
  have := digit_head h2
  exact ⟨UInt8.ofNat y, ys.map UInt8.ofNat, by unfold numB; rw [h1]; rfl, this.1, this.2⟩
theorem quote_head {k : List UInt8} (h : validL k = true) : ∃ r, quoteL k = 34 :: r := by unfold quoteL; rw [if_pos h]; exact ⟨_, rfl⟩
theorem sound_kinds {t : MT} (h : soundB t = true) (h5 : t.c.k ≠ 5) : t.c.k = 1 ∨ t.c.k = 2 ∨ t.c.k = 3 ∨ (t.c.k = 4 ∧ validL t.c.s.data.toList = true) ∨ t.c.k = 6 ∨ t.c.k = 7 := by
  unfold soundB at h
  by_cases c1 : t.c.k = 1; · exact .inl c1
  by_cases c2 : t.c.k = 2; · exact .inr (.inl c2)
  by_cases c3 : t.c.k = 3; · exact .inr (.inr (.inl c3))
  by_cases c4 : t.c.k = 4
  · rw [if_neg c1, if_neg c2, if_neg c3, if_pos c4] at h
    simp only [Bool.and_eq_true] at h
    exact .inr (.inr (.inr (.inl ⟨c4, h.1⟩)))
  by_cases c7 : t.c.k = 7; · exact .inr (.inr (.inr (.inr (.inr c7))))
  by_cases c6 : t.c.k = 6; · exact .inr (.inr (.inr (.inr (.inl c6))))
  rw [if_neg c1, if_neg c2, if_neg c3, if_neg c4, if_neg h5, if_neg c7, if_neg c6] at h
  cases h
theorem encj_head {t : MT} (h : soundB t = true) (h5 : t.c.k ≠ 5) : ∃ x r, encJ t = x :: r ∧ HeadB x := by
  rw [encJ_eq]
  rcases sound_kinds h h5 with c | c | c | ⟨c, hv⟩ | c | c
  · rw [if_pos c]; exact ⟨110, _, rfl, by unfold HeadB; decide⟩
  · rw [if_neg (by omega), if_pos c]
    cases t.c.b
    · exact ⟨102, _, rfl, by unfold HeadB; decide⟩
    · exact ⟨116, _, rfl, by unfold HeadB; decide⟩
  · rw [if_neg (by omega), if_neg (by omega), if_pos c]
    obtain ⟨x, r, h1, h2, _⟩ := numB_head t.c.neg (val t.m) t.c.e
    exact ⟨x, r, h1, h2⟩
  · rw [if_neg (by omega), if_neg (by omega), if_neg (by omega), if_pos c]
    obtain ⟨r, hr⟩ := quote_head hv
    exact ⟨34, r, hr, by unfold HeadB; decide⟩
  · rw [if_neg (by omega), if_neg (by omega), if_neg (by omega), if_neg (by omega), if_pos c]
    exact ⟨91, _, rfl, by unfold HeadB; decide⟩
  · rw [if_neg (by omega), if_neg (by omega), if_neg (by omega), if_neg (by omega), if_neg (by omega), if_pos c]
    exact ⟨123, _, rfl, by unfold HeadB; decide⟩
def tailC (ps : List (List UInt8)) (e : List UInt8) : List UInt8 := (ps.map (44 :: ·)).flatten ++ e
theorem tailC_nil (e : List UInt8) : tailC [] e = e := rfl
theorem tailC_cons (p : List UInt8) (ps : List (List UInt8)) (e : List UInt8) : tailC (p :: ps) e = 44 :: (p ++ tailC ps e) := by unfold tailC; simp
theorem joinC_cons (p : List UInt8) (ps : List (List UInt8)) (e : List UInt8) : joinC (p :: ps) ++ e = p ++ tailC ps e := by unfold joinC tailC; simp
theorem tailC_nosign (ps : List (List UInt8)) {x : UInt8} {e : List UInt8} (h : signsL.contains x = false) : NoSign (tailC ps (x :: e)) := by
  cases ps with
  | nil => exact noSign_cons _ h
  | cons p ps => rw [tailC_cons]; exact noSign_cons _ (by decide)
theorem join_count : ∀ ps : List (List UInt8), (∀ p ∈ ps, 0 < p.length) → ps.length ≤ (joinC ps).length := by
  intro ps h
  cases ps with
  | nil => exact Nat.zero_le _
  | cons p ps =>
    have h1 := h p (by simp)
    have h2 : ps.length ≤ ((ps.map (44 :: ·)).flatten).length := by
      clear h h1
      induction ps with
      | nil => exact Nat.zero_le _
      | cons q qs ih => simp only [List.map_cons, List.flatten_cons, List.length_append, List.length_cons]; omega
    simp only [joinC, List.length_append, List.length_cons]
    omega
def RtV (V : List UInt8 → Nat → PRJ) (u : MT) : Prop := (∃ x r, encJ u = x :: r ∧ HeadB x) ∧ ∀ n more, NoSign more → n + u.nodes ≤ 2001 → V (encJ u ++ more) n = .inl (u.bare, more, n + u.nodes - 1)
theorem loop_items {V : List UInt8 → Nat → PRJ} {D : Nat} (hD : D ≤ 64) : ∀ (us : List MT) (g many n : Nat) (acc : List MT) (more : List UInt8), us.length < g → 0 < many → many + us.length ≤ 300 → n + MT.nodesL us ≤ 2000 → (∀ u ∈ us, RtV V u) →
    loopL (itemL V) 93 D g many acc (tailC (us.map encJ) (93 :: more)) n = .inl (acc ++ us.map MT.bare, more, n + MT.nodesL us) := by
  intro us
  induction us with
  | nil =>
    intro g many n acc more hg hm hn hs hV
    obtain ⟨g, rfl⟩ : ∃ q, g = q + 1 := ⟨g - 1, by omega⟩
    rw [List.map_nil, tailC_nil, loopL_end (nextL_cons' (by decide)), skipL_cons (by decide), MT.nodesL_nil]
    simp
  | cons u us ih =>
    intro g many n acc more hg hm hn hs hV
    obtain ⟨g, rfl⟩ : ∃ q, g = q + 1 := ⟨g - 1, by omega⟩
    rw [MT.nodesL_cons] at hs ⊢
    rw [List.length_cons] at hg hn
    have hu := (hV u (by simp)).2 (n + 1) (tailC (us.map encJ) (93 :: more)) (tailC_nosign _ (by decide)) (by have := u.nodes_pos; omega)
    have hx : nextL (44 :: (encJ u ++ tailC (us.map encJ) (93 :: more))) = 44 := nextL_cons' (by decide)
    rw [List.map_cons, tailC_cons, loopL_on (by rw [hx]; decide) (by rw [hx]; exact fun h => h.2 rfl) ⟨by omega, hD, by have := u.nodes_pos; omega⟩ (by rw [if_pos hm, skipL_cons (by decide)]; exact itemL_yes hu)]
    rw [ih g (many + 1) _ _ more (by omega) (by omega) (by omega) (by show n + 1 + u.nodes - 1 + MT.nodesL us ≤ 2000; omega) (fun v hv => hV v (by simp [hv]))]
    have hp := u.nodes_pos
    show Sum.inl (acc ++ [u.bare] ++ us.map MT.bare, more, n + 1 + u.nodes - 1 + MT.nodesL us) = _
    rw [List.append_assoc, show n + 1 + u.nodes - 1 + MT.nodesL us = n + (u.nodes + MT.nodesL us) by omega]
    rfl
theorem loop_array {V : List UInt8 → Nat → PRJ} {D : Nat} {us : List MT} {g n : Nat} {more : List UInt8} (hD : us ≠ [] → D ≤ 64) (hg : us.length < g) (hm : us.length ≤ 300) (hn : n + MT.nodesL us ≤ 2000) (hV : ∀ u ∈ us, RtV V u) :
    loopL (itemL V) 93 D g 0 [] (joinC (us.map encJ) ++ 93 :: more) n = .inl (us.map MT.bare, more, n + MT.nodesL us) := by
  obtain ⟨g, rfl⟩ : ∃ q, g = q + 1 := ⟨g - 1, by omega⟩
  cases us with
  | nil =>
    show loopL (itemL V) 93 D (g + 1) 0 [] (93 :: more) n = _
    rw [loopL_end (nextL_cons' (by decide)), skipL_cons (by decide), MT.nodesL_nil]
    rfl
  | cons u us =>
    rw [MT.nodesL_cons] at hn ⊢
    rw [List.length_cons] at hg hm
    have hp := u.nodes_pos
    have hu := (hV u (by simp)).2 (n + 1) (tailC (us.map encJ) (93 :: more)) (tailC_nosign _ (by decide)) (by omega)
    obtain ⟨x, r, hx, hb, h93, _, h44, _⟩ := (hV u (by simp)).1
    have e1 : skipL (encJ u ++ tailC (us.map encJ) (93 :: more)) = encJ u ++ tailC (us.map encJ) (93 :: more) := by rw [hx]; exact skipL_cons hb
    have e2 : nextL (encJ u ++ tailC (us.map encJ) (93 :: more)) = x := by rw [hx]; exact nextL_cons' hb
    rw [List.map_cons, joinC_cons, loopL_on (by rw [e2]; exact h93) (fun h => absurd h.1 (by decide)) ⟨by decide, hD (by simp), by omega⟩ (by rw [if_neg (by decide), e1]; exact itemL_yes hu)]
    rw [loop_items (hD (by simp)) us g 1 _ _ more (by omega) (by decide) (by omega) (by show n + 1 + u.nodes - 1 + MT.nodesL us ≤ 2000; omega) (fun v hv => hV v (by simp [hv]))]
    show Sum.inl ([u.bare] ++ us.map MT.bare, more, n + 1 + u.nodes - 1 + MT.nodesL us) = _
    rw [show n + 1 + u.nodes - 1 + MT.nodesL us = n + (u.nodes + MT.nodesL us) by omega]
    rfl
end Go.Proofs.YtijaphbccnadbaaGreatDoor
namespace Go.Proofs.YtijaphbccnadbaaGreatDoor
open Go.Shelf Go.RowKit Go.Lib Go.Sort
set_option linter.unusedVariables false
set_option linter.unusedSimpArgs false
def OkK (k : ByteArray) : Prop := validL k.data.toList = true ∧ k.size ≤ 2000
theorem okK_of {k : ByteArray} (h : okN k = true) : OkK k := by
  unfold okN at h
  rw [Bool.and_eq_true] at h
  exact ⟨h.2, of_decide_eq_true h.1⟩
theorem okK_len {k : ByteArray} (h : OkK k) : k.data.toList.length ≤ 2000 := by rw [Array.length_toList]; exact h.2
theorem member_enc {V : List UInt8 → Nat → PRJ} {k : ByteArray} {u : MT} (hk : OkK k) (hV : RtV V u) {n : Nat} {more : List UInt8} (hm : NoSign more) (hn : n + u.nodes ≤ 2001) (acc : List (List UInt8) × List MT) :
    memberL V acc (mbrB k (encJ u) ++ more) n = .inl ((acc.1 ++ [k.data.toList], acc.2 ++ [u.bare]), more, n + u.nodes - 1) := by
  obtain ⟨r, hr⟩ := quote_head hk.1
  have e0 : mbrB k (encJ u) ++ more = quoteL k.data.toList ++ (58 :: (encJ u ++ more)) := by unfold mbrB; simp
  have e1 : skipL (mbrB k (encJ u) ++ more) = quoteL k.data.toList ++ (58 :: (encJ u ++ more)) := by rw [e0, hr]; exact skipL_cons (by decide)
  have e2 := textL_enc (more := 58 :: (encJ u ++ more)) hk.1 (okK_len hk)
  rw [← e1] at e2
  exact memberL_yes e2 (nextL_cons' (by decide)) (by rw [skipL_cons (by decide)]; exact hV.2 n more hm hn)
theorem mbr_head {k : ByteArray} (hk : OkK k) (p more : List UInt8) : ∃ r, mbrB k p ++ more = 34 :: r := by
  obtain ⟨r, hr⟩ := quote_head hk.1
  unfold mbrB
  rw [hr]
  exact ⟨_, rfl⟩
def mbrs (zs : List (ByteArray × MT)) : List (List UInt8) := zs.map fun z => mbrB z.1 (encJ z.2)
theorem mbrs_zip : ∀ (ks : List ByteArray) (us : List MT), List.zipWith mbrB ks (us.map encJ) = mbrs (ks.zip us) := by
  intro ks
  induction ks with
  | nil => intro us; rfl
  | cons k ks ih =>
    intro us
    cases us with
    | nil => rfl
    | cons u us =>
      rw [List.map_cons, List.zipWith_cons_cons, ih us]
      rfl
theorem loop_members {V : List UInt8 → Nat → PRJ} {D : Nat} (hD : D ≤ 64) : ∀ (zs : List (ByteArray × MT)) (g many n : Nat) (acc : List (List UInt8) × List MT) (more : List UInt8), zs.length < g → 0 < many → many + zs.length ≤ 300 → n + MT.nodesL (zs.map Prod.snd) ≤ 2000 → (∀ z ∈ zs, OkK z.1 ∧ RtV V z.2) →
    loopL (memberL V) 125 D g many acc (tailC (mbrs zs) (125 :: more)) n = .inl ((acc.1 ++ zs.map fun z => z.1.data.toList, acc.2 ++ zs.map fun z => z.2.bare), more, n + MT.nodesL (zs.map Prod.snd)) := by
  intro zs
  induction zs with
  | nil =>
    intro g many n acc more hg hm hn hs hV
    obtain ⟨g, rfl⟩ : ∃ q, g = q + 1 := ⟨g - 1, by omega⟩
    show loopL (memberL V) 125 D (g + 1) many acc (125 :: more) n = _
    rw [loopL_end (nextL_cons' (by decide)), skipL_cons (by decide), show MT.nodesL (([] : List (ByteArray × MT)).map Prod.snd) = 0 from MT.nodesL_nil]
    simp
  | cons z zs ih =>
    intro g many n acc more hg hm hn hs hV
    obtain ⟨g, rfl⟩ : ∃ q, g = q + 1 := ⟨g - 1, by omega⟩
    have hN : MT.nodesL ((z :: zs).map Prod.snd) = z.2.nodes + MT.nodesL (zs.map Prod.snd) := MT.nodesL_cons _ _
    rw [hN] at hs ⊢
    rw [List.length_cons] at hg hn
    have hp := z.2.nodes_pos
    have hz := hV z (by simp)
    have hu := member_enc hz.1 hz.2 (n := n + 1) (more := tailC (mbrs zs) (125 :: more)) (tailC_nosign _ (by decide)) (by omega) acc
    have e : mbrs (z :: zs) = mbrB z.1 (encJ z.2) :: mbrs zs := rfl
    have hx : nextL (44 :: (mbrB z.1 (encJ z.2) ++ tailC (mbrs zs) (125 :: more))) = 44 := nextL_cons' (by decide)
    rw [e, tailC_cons, loopL_on (by rw [hx]; decide) (by rw [hx]; exact fun h => h.2 rfl) ⟨by omega, hD, by omega⟩ (by rw [if_pos hm, skipL_cons (by decide)]; exact hu)]
    rw [ih g (many + 1) _ _ more (by omega) (by omega) (by omega) (by show n + 1 + z.2.nodes - 1 + MT.nodesL (zs.map Prod.snd) ≤ 2000; omega) (fun v hv => hV v (by simp [hv]))]
    show Sum.inl (((acc.1 ++ [z.1.data.toList]) ++ zs.map fun z => z.1.data.toList, (acc.2 ++ [z.2.bare]) ++ zs.map fun z => z.2.bare), more, n + 1 + z.2.nodes - 1 + MT.nodesL (zs.map Prod.snd)) = _
    rw [List.append_assoc, List.append_assoc, show n + 1 + z.2.nodes - 1 + MT.nodesL (zs.map Prod.snd) = n + (z.2.nodes + MT.nodesL (zs.map Prod.snd)) by omega]
    rfl
theorem loop_object {V : List UInt8 → Nat → PRJ} {D : Nat} {zs : List (ByteArray × MT)} {g n : Nat} {more : List UInt8} (hD : zs ≠ [] → D ≤ 64) (hg : zs.length < g) (hm : zs.length ≤ 300) (hn : n + MT.nodesL (zs.map Prod.snd) ≤ 2000) (hV : ∀ z ∈ zs, OkK z.1 ∧ RtV V z.2) :
    loopL (memberL V) 125 D g 0 ([], []) (joinC (mbrs zs) ++ 125 :: more) n = .inl ((zs.map fun z => z.1.data.toList, zs.map fun z => z.2.bare), more, n + MT.nodesL (zs.map Prod.snd)) := by
  obtain ⟨g, rfl⟩ : ∃ q, g = q + 1 := ⟨g - 1, by omega⟩
  cases zs with
  | nil =>
    show loopL (memberL V) 125 D (g + 1) 0 ([], []) (125 :: more) n = _
    rw [loopL_end (nextL_cons' (by decide)), skipL_cons (by decide), show MT.nodesL (([] : List (ByteArray × MT)).map Prod.snd) = 0 from MT.nodesL_nil]
    rfl
  | cons z zs =>
    have hN : MT.nodesL ((z :: zs).map Prod.snd) = z.2.nodes + MT.nodesL (zs.map Prod.snd) := MT.nodesL_cons _ _
    rw [hN] at hn ⊢
    rw [List.length_cons] at hg hm
    have hp := z.2.nodes_pos
    have hz := hV z (by simp)
    have hu := member_enc hz.1 hz.2 (n := n + 1) (more := tailC (mbrs zs) (125 :: more)) (tailC_nosign _ (by decide)) (by omega) ([], [])
    have e : mbrs (z :: zs) = mbrB z.1 (encJ z.2) :: mbrs zs := rfl
    obtain ⟨r, hx⟩ := mbr_head hz.1 (encJ z.2) (tailC (mbrs zs) (125 :: more))
    have e1 : skipL (mbrB z.1 (encJ z.2) ++ tailC (mbrs zs) (125 :: more)) = mbrB z.1 (encJ z.2) ++ tailC (mbrs zs) (125 :: more) := by rw [hx]; exact skipL_cons (by decide)
    have e2 : nextL (mbrB z.1 (encJ z.2) ++ tailC (mbrs zs) (125 :: more)) = 34 := by rw [hx]; exact nextL_cons' (by decide)
    rw [e, joinC_cons, loopL_on (by rw [e2]; decide) (fun h => absurd h.1 (by decide)) ⟨by decide, hD (by simp), by omega⟩ (by rw [if_neg (by decide), e1]; exact hu)]
    rw [loop_members (hD (by simp)) zs g 1 _ _ more (by omega) (by decide) (by omega) (by show n + 1 + z.2.nodes - 1 + MT.nodesL (zs.map Prod.snd) ≤ 2000; omega) (fun v hv => hV v (by simp [hv]))]
    show Sum.inl ((([] ++ [z.1.data.toList]) ++ zs.map fun z => z.1.data.toList, ([] ++ [z.2.bare]) ++ zs.map fun z => z.2.bare), more, n + 1 + z.2.nodes - 1 + MT.nodesL (zs.map Prod.snd)) = _
    rw [show n + 1 + z.2.nodes - 1 + MT.nodesL (zs.map Prod.snd) = n + (z.2.nodes + MT.nodesL (zs.map Prod.snd)) by omega]
    rfl
theorem sorted_ris {ks : List ByteArray} (h : Ris ks) : sortedK ks = List.range' 0 ks.length := by
  unfold sortedK
  refine (srt_unique sto_bytes _ _ _ _ (List.Perm.refl _) ?_).symm
  rw [List.pairwise_iff_getElem]
  intro i j hi hj hij
  rw [List.length_range'] at hi hj
  rw [List.getElem_range', List.getElem_range', leI_iff]
  left
  have := h i j hij hj
  unfold ltS at this
  simpa using this
theorem ris_nodup {ks : List ByteArray} (h : Ris ks) : (ks.map fun k => k.data.toList).Nodup := by
  refine List.pairwise_iff_getElem.2 ?_
  intro i j hi hj hij
  rw [List.length_map] at hi hj
  rw [List.getElem_map, List.getElem_map]
  have := ltS_ne (h i j hij hj)
  intro e
  apply this
  simp only [List.getD, List.getElem?_eq_getElem hi, List.getElem?_eq_getElem hj, Option.getD_some]
  exact ByteArray.ext (Array.toList_inj.1 e)
theorem strs_back (ks : List ByteArray) : strs (ks.map fun k => k.data.toList) = ks := by
  unfold strs
  rw [List.map_map]
  have : ((fun x : List UInt8 => (⟨x.toArray⟩ : ByteArray)) ∘ fun k : ByteArray => k.data.toList) = id := by funext k; rfl
  rw [this, List.map_id]
theorem range_getD {α : Type} (l : List α) (d : α) : (List.range' 0 l.length).map (fun i => l.getD i d) = l := by
  apply List.ext_getElem
  · simp
  · intro i h1 h2
    simp [List.getD, h2]
end Go.Proofs.YtijaphbccnadbaaGreatDoor
namespace Go.Proofs.YtijaphbccnadbaaGreatDoor
open Go.Shelf Go.RowKit Go.Lib Go.Sort
set_option linter.unusedVariables false
set_option linter.unusedSimpArgs false
theorem blank_facts {c : Cel} (h : blankB c = true) : c.b = false ∧ c.neg = false ∧ c.mn = 0 ∧ c.e = 0 ∧ c.s = ⟨#[]⟩ ∧ c.kn = 0 ∧ c.vn = 0 := by
  unfold blankB at h
  simp only [Bool.and_eq_true, Bool.not_eq_true', decide_eq_true_eq] at h
  obtain ⟨h1, h2, h3, h4, h5, h6, h7⟩ := h
  refine ⟨h1, h2, h3, h4, ?_, h6, h7⟩
  apply ByteArray.ext
  exact Array.eq_empty_of_size_eq_zero h5
theorem bare_null {t : MT} (hc : Coh t) (k : t.c.k = 1) (h : soundB t = true) : t.bare = leafT 1 false ⟨#[]⟩ := by
  obtain ⟨h1, _, h2, h3⟩ := hc.own
  rw [MT.bare_eq]
  obtain ⟨⟨ck, b, neg, ma, mn, mc, e, s, ka, kn, kc, va, vn, vc⟩, m, ks, vs⟩ := t
  simp only [MT.c, MT.m, MT.k, MT.v] at *
  subst k
  obtain ⟨e1, e2, e3, e4, e5, e6, e7⟩ := blank_facts (c := ⟨1, b, neg, ma, mn, mc, e, s, ka, kn, kc, va, vn, vc⟩) h
  simp only at e1 e2 e3 e4 e5 e6 e7
  subst e1 e2 e3 e4 e5 e6 e7
  rw [List.eq_nil_of_length_eq_zero h1, List.eq_nil_of_length_eq_zero h2, List.eq_nil_of_length_eq_zero h3]
  rfl
theorem bare_bool {t : MT} (hc : Coh t) (k : t.c.k = 2) (h : soundB t = true) : t.bare = leafT 2 t.c.b ⟨#[]⟩ := by
  obtain ⟨h1, _, h2, h3⟩ := hc.own
  rw [MT.bare_eq]
  obtain ⟨⟨ck, b, neg, ma, mn, mc, e, s, ka, kn, kc, va, vn, vc⟩, m, ks, vs⟩ := t
  simp only [MT.c, MT.m, MT.k, MT.v] at *
  subst k
  obtain ⟨e1, e2, e3, e4, e5, e6, e7⟩ := blank_facts (c := ⟨2, false, neg, ma, mn, mc, e, s, ka, kn, kc, va, vn, vc⟩) h
  simp only at e1 e2 e3 e4 e5 e6 e7
  subst e2 e3 e4 e5 e6 e7
  rw [List.eq_nil_of_length_eq_zero h1, List.eq_nil_of_length_eq_zero h2, List.eq_nil_of_length_eq_zero h3]
  rfl
theorem bare_num {t : MT} (hc : Coh t) (k : t.c.k = 3) (h : soundB t = true) : chkB t.c.neg t.m t.c.e = true ∧ t.bare = numT t.c.neg none t.m.length 0 t.c.e t.m := by
  obtain ⟨h1, _, h2, h3⟩ := hc.own
  rw [MT.bare_eq]
  obtain ⟨⟨ck, b, neg, ma, mn, mc, e, s, ka, kn, kc, va, vn, vc⟩, m, ks, vs⟩ := t
  simp only [MT.c, MT.m, MT.k, MT.v] at *
  subst k
  have h' : (chkB neg m e && blankB ⟨3, b, false, none, 0, 0, 0, s, ka, kn, kc, va, vn, vc⟩) = true := h
  rw [Bool.and_eq_true] at h'
  obtain ⟨e1, e2, e3, e4, e5, e6, e7⟩ := blank_facts h'.2
  simp only at e1 e2 e3 e4 e5 e6 e7
  subst e1 e5 e6 e7 h1
  rw [List.eq_nil_of_length_eq_zero h2, List.eq_nil_of_length_eq_zero h3]
  exact ⟨h'.1, rfl⟩
theorem bare_text {t : MT} (hc : Coh t) (k : t.c.k = 4) (h : soundB t = true) : OkK t.c.s ∧ t.bare = leafT 4 false t.c.s := by
  obtain ⟨h1, _, h2, h3⟩ := hc.own
  rw [MT.bare_eq]
  obtain ⟨⟨ck, b, neg, ma, mn, mc, e, s, ka, kn, kc, va, vn, vc⟩, m, ks, vs⟩ := t
  simp only [MT.c, MT.m, MT.k, MT.v] at *
  subst k
  have h' : (validL s.data.toList && (decide (s.size ≤ 2000) && blankB ⟨4, b, neg, ma, mn, mc, e, ⟨#[]⟩, ka, kn, kc, va, vn, vc⟩)) = true := h
  rw [Bool.and_eq_true, Bool.and_eq_true] at h'
  obtain ⟨e1, e2, e3, e4, e5, e6, e7⟩ := blank_facts h'.2.2
  simp only at e1 e2 e3 e4 e5 e6 e7
  subst e1 e2 e3 e4 e6 e7
  rw [List.eq_nil_of_length_eq_zero h1, List.eq_nil_of_length_eq_zero h2, List.eq_nil_of_length_eq_zero h3]
  exact ⟨⟨h'.1, of_decide_eq_true h'.2.1⟩, rfl⟩
theorem bare_arr {t : MT} (hc : Coh t) (k : t.c.k = 6) (h : soundB t = true) : t.v.length ≤ 300 ∧ t.bare = barr (t.v.map MT.bare) := by
  obtain ⟨h1, _, h2, h3⟩ := hc.own
  rw [MT.bare_eq]
  obtain ⟨⟨ck, b, neg, ma, mn, mc, e, s, ka, kn, kc, va, vn, vc⟩, m, ks, vs⟩ := t
  simp only [MT.c, MT.m, MT.k, MT.v] at *
  subst k
  have h' : (decide (vn ≤ 300) && blankB ⟨6, b, neg, ma, mn, mc, e, s, ka, kn, kc, none, 0, 0⟩) = true := h
  rw [Bool.and_eq_true] at h'
  obtain ⟨e1, e2, e3, e4, e5, e6, e7⟩ := blank_facts h'.2
  simp only at e1 e2 e3 e4 e5 e6 e7
  subst e1 e2 e3 e4 e5 e6 h3
  rw [List.eq_nil_of_length_eq_zero h1, List.eq_nil_of_length_eq_zero h2]
  refine ⟨of_decide_eq_true h'.1, ?_⟩
  unfold barr arrT
  rw [List.length_map]
  rfl
theorem bare_obj {t : MT} (hc : Coh t) (k : t.c.k = 7) (h : soundB t = true) : t.v.length ≤ 300 ∧ t.k.length = t.v.length ∧ risesB t.k = true ∧ t.bare = bobj t.k (t.v.map MT.bare) := by
  obtain ⟨h1, _, h2, h3⟩ := hc.own
  rw [MT.bare_eq]
  obtain ⟨⟨ck, b, neg, ma, mn, mc, e, s, ka, kn, kc, va, vn, vc⟩, m, ks, vs⟩ := t
  simp only [MT.c, MT.m, MT.k, MT.v] at *
  subst k
  have h' : (decide (kn = vn) && (risesB ks && (decide (vn ≤ 300) && blankB ⟨7, b, neg, ma, mn, mc, e, s, none, 0, 0, none, 0, 0⟩))) = true := h
  rw [Bool.and_eq_true, Bool.and_eq_true, Bool.and_eq_true] at h'
  obtain ⟨e1, e2, e3, e4, e5, e6, e7⟩ := blank_facts h'.2.2.2
  simp only at e1 e2 e3 e4 e5 e6 e7
  have hkv := of_decide_eq_true h'.1
  subst e1 e2 e3 e4 e5 h3 h2
  rw [List.eq_nil_of_length_eq_zero h1]
  refine ⟨of_decide_eq_true h'.2.2.1, hkv, h'.2.1, ?_⟩
  unfold bobj objT
  rw [List.length_map]
  rfl
theorem wordL_enc (W more : List UInt8) (t : MT) (n : Nat) : wordL W t (W ++ more) n = .inl (t, more, n) := by
  unfold wordL
  have h : Lib.hasPrefix (W ++ more) W = true := List.isPrefixOf_iff_prefix.2 (List.prefix_append _ _)
  rw [if_pos h]
  have e : Lib.trimPrefix (W ++ more) W = more := by simp only [Lib.trimPrefix, h, if_true]; exact List.drop_left' rfl
  rw [e]
theorem valueL_null {f d n : Nat} {l : List UInt8} (h : nextL l = 110) : valueL (f + 1) d l n = wordL [110, 117, 108, 108] (leafT 1 false ⟨#[]⟩) (skipL l) n := by
  unfold valueL valueW
  rw [h]
  rfl
theorem valueL_true {f d n : Nat} {l : List UInt8} (h : nextL l = 116) : valueL (f + 1) d l n = wordL [116, 114, 117, 101] (leafT 2 true ⟨#[]⟩) (skipL l) n := by
  unfold valueL valueW
  rw [h]
  rfl
theorem valueL_false {f d n : Nat} {l : List UInt8} (h : nextL l = 102) : valueL (f + 1) d l n = wordL [102, 97, 108, 115, 101] (leafT 2 false ⟨#[]⟩) (skipL l) n := by
  unfold valueL valueW
  rw [h]
  rfl
def SndD (t : MT) (d : Nat) : Prop := ∀ x ∈ t.pre d, x.1 ≤ 64 ∧ soundB x.2 = true
theorem SndD.own {t : MT} {d : Nat} (h : SndD t d) : d ≤ 64 ∧ soundB t = true := h (d, t) (by rw [MT.pre_eq]; simp)
theorem SndD.part {t u : MT} {d : Nat} (h : SndD t d) (hu : u ∈ t.v) : SndD u (d + 1) := fun x hx => h x (by rw [MT.pre_eq]; exact List.mem_cons_of_mem _ (MT.mem_preL.2 ⟨u, hu, hx⟩))
theorem SndD.of {t : MT} (h : checkB t = true) : SndD t 1 ∧ t.nodes ≤ 2000 := by
  unfold checkB at h
  rw [Bool.and_eq_true, List.all_eq_true] at h
  refine ⟨fun x hx => ?_, of_decide_eq_true h.1⟩
  have := h.2 x hx
  rw [Bool.and_eq_true] at this
  exact ⟨of_decide_eq_true this.1, this.2⟩
theorem zip_nodes : ∀ (ks : List ByteArray) (us : List MT), ks.length = us.length → (ks.zip us).map Prod.snd = us := by
  intro ks us h
  rw [List.map_snd_zip (Nat.le_of_eq h.symm)]
theorem value_enc (t : MT) : ∀ (f dd n : Nat) (more : List UInt8), dd + f = 67 → SndD t dd → Coh t → NoB t → n + t.nodes ≤ 2001 → NoSign more → valueL f dd (encJ t ++ more) n = .inl (t.bare, more, n + t.nodes - 1) := by
  refine MT.ind (P := fun t => ∀ (f dd n : Nat) (more : List UInt8), dd + f = 67 → SndD t dd → Coh t → NoB t → n + t.nodes ≤ 2001 → NoSign more → valueL f dd (encJ t ++ more) n = .inl (t.bare, more, n + t.nodes - 1)) ?_ t
  intro t ih f dd n more hf hs hc hb hn hm
  obtain ⟨hd, hso⟩ := hs.own
  obtain ⟨f, rfl⟩ : ∃ g, f = g + 1 := ⟨f - 1, by omega⟩
  have hb5 := (NoB.iff.1 hb).1
  have hvn : ∀ {x : List MT}, t.v = x → t.nodes = 1 + MT.nodesL x := fun e => by rw [MT.nodes_eq, e]
  have hR : ∀ u ∈ t.v, RtV (valueL f (dd + 1)) u := fun u hu => by
    have hsu := hs.part hu
    exact ⟨encj_head hsu.own.2 (NoB.iff.1 ((NoB.iff.1 hb).2 u hu)).1, fun n more hm hn => ih u hu f (dd + 1) n more (by omega) hsu (hc.part hu) ((NoB.iff.1 hb).2 u hu) hn hm⟩
  have hD : t.v ≠ [] → dd + 1 ≤ 64 := fun h => by
    obtain ⟨u, us, e⟩ := List.exists_cons_of_ne_nil h
    exact (hs.part (u := u) (by rw [e]; simp)).own.1
  have one : ∀ {x : MT}, t.bare = x → x.v = [] → n + t.nodes - 1 = n := fun e h => by
    have h2 : t.v.map MT.bare = [] := by rw [← h, ← e, MT.bare_eq]; rfl
    rw [List.map_eq_nil_iff] at h2
    rw [MT.nodes_eq, h2, MT.nodesL_nil]
    omega
  rw [encJ_eq]
  rcases sound_kinds hso hb5 with c | c | c | ⟨c, _⟩ | c | c
  · rw [if_pos c, bare_null hc c hso, one (bare_null hc c hso) rfl]
    have e : skipL (nullB ++ more) = nullB ++ more := skipL_cons (by decide)
    rw [valueL_null (l := nullB ++ more) (nextL_cons' (by decide)), e]
    exact wordL_enc _ _ _ _
  · rw [if_neg (by omega), if_pos c, bare_bool hc c hso, one (bare_bool hc c hso) rfl]
    cases t.c.b
    · have e : skipL (truthB false ++ more) = truthB false ++ more := skipL_cons (by decide)
      rw [valueL_false (l := truthB false ++ more) (nextL_cons' (by decide)), e]
      exact wordL_enc _ _ _ _
    · have e : skipL (truthB true ++ more) = truthB true ++ more := skipL_cons (by decide)
      rw [valueL_true (l := truthB true ++ more) (nextL_cons' (by decide)), e]
      exact wordL_enc _ _ _ _
  · obtain ⟨h1, h2⟩ := bare_num hc c hso
    rw [if_neg (by omega), if_neg (by omega), if_pos c, one h2 rfl, h2]
    obtain ⟨x, r, hx, hh, hdg⟩ := numB_head t.c.neg (val t.m) t.c.e
    have e1 : skipL (numB t.c.neg (val t.m) t.c.e ++ more) = numB t.c.neg (val t.m) t.c.e ++ more := by rw [hx]; exact skipL_cons hh.1
    have e2 : nextL (numB t.c.neg (val t.m) t.c.e ++ more) = x := by rw [hx]; exact nextL_cons' hh.1
    rw [valueL_num (by rw [e2]; exact hdg), e1]
    unfold numP
    rw [numL_enc hc.own.2.1 h1 hm]
    show Sum.inl (numT t.c.neg none (limbs (val t.m)).length 0 t.c.e (limbs (val t.m)), more, n) = _
    rw [(parse_chk hc.own.2.1 h1).2]
  · obtain ⟨h1, h2⟩ := bare_text hc c hso
    rw [if_neg (by omega), if_neg (by omega), if_neg (by omega), if_pos c, one h2 rfl, h2]
    obtain ⟨r, hr⟩ := quote_head h1.1
    have e1 : skipL (quoteL t.c.s.data.toList ++ more) = quoteL t.c.s.data.toList ++ more := by rw [hr]; exact skipL_cons (by decide)
    have e2 : nextL (quoteL t.c.s.data.toList ++ more) = 34 := by rw [hr]; exact nextL_cons' (by decide)
    rw [valueL_text e2, e1]
    unfold textP
    rw [textL_enc h1.1 (okK_len h1)]
    rfl
  · obtain ⟨h1, h2⟩ := bare_arr hc c hso
    rw [if_neg (by omega), if_neg (by omega), if_neg (by omega), if_neg (by omega), if_pos c, h2]
    rw [MT.nodes_eq] at hn ⊢
    have e0 : arrB (t.v.map encJ) ++ more = 91 :: (joinC (t.v.map encJ) ++ 93 :: more) := by unfold arrB; simp
    have hlen : t.v.length ≤ (joinC (t.v.map encJ)).length := by
      have := join_count (t.v.map encJ) (fun p hp => by
        obtain ⟨u, hu, rfl⟩ := List.mem_map.1 hp
        obtain ⟨x, r, hx, _⟩ := (hR u hu).1
        rw [hx]; simp)
      rwa [List.length_map] at this
    have hl := loop_array (V := valueL f (dd + 1)) (D := dd + 1) (g := (91 :: (joinC (t.v.map encJ) ++ 93 :: more)).length + 1) (n := n) (more := more) hD (by simp only [List.length_cons, List.length_append]; omega) h1 (by omega) hR
    rw [e0, valueL_arr (nextL_cons' (by decide)), skipL_cons (by decide)]
    have := arrL_yes (d := dd) (s := 91 :: (joinC (t.v.map encJ) ++ 93 :: more)) (by rw [skipL_cons (by decide)]; exact hl)
    rw [this]
    show Sum.inl (barr (t.v.map MT.bare), more, n + MT.nodesL t.v) = _
    rw [show n + MT.nodesL t.v = n + (1 + MT.nodesL t.v) - 1 by omega]
  · obtain ⟨h1, h3, h4, h2⟩ := bare_obj hc c hso
    rw [if_neg (by omega), if_neg (by omega), if_neg (by omega), if_neg (by omega), if_neg (by omega), if_pos c, h2]
    rw [MT.nodes_eq] at hn ⊢
    have e0 : objB t.k (t.v.map encJ) ++ more = 123 :: (joinC (mbrs (t.k.zip t.v)) ++ 125 :: more) := by unfold objB; rw [mbrs_zip]; simp
    have hz : ∀ z ∈ t.k.zip t.v, OkK z.1 ∧ RtV (valueL f (dd + 1)) z.2 := fun z hz => ⟨okK_of (rises_ok h4 z.1 (List.of_mem_zip hz).1), hR z.2 (List.of_mem_zip hz).2⟩
    have hzl : (t.k.zip t.v).length = t.v.length := by rw [List.length_zip, h3, Nat.min_self]
    have hlen : (t.k.zip t.v).length ≤ (joinC (mbrs (t.k.zip t.v))).length := by
      have := join_count (mbrs (t.k.zip t.v)) (fun p hp => by
        obtain ⟨z, hzz, rfl⟩ := List.mem_map.1 hp
        unfold mbrB
        simp only [List.length_append, List.length_cons]
        omega)
      unfold mbrs at this ⊢
      rwa [List.length_map] at this
    have hzn : (t.k.zip t.v).map Prod.snd = t.v := zip_nodes _ _ h3
    have hl := loop_object (V := valueL f (dd + 1)) (D := dd + 1) (zs := t.k.zip t.v) (g := (123 :: (joinC (mbrs (t.k.zip t.v)) ++ 125 :: more)).length + 1) (n := n) (more := more) (fun h => hD (fun e => h (by rw [e]; simp))) (by simp only [List.length_cons, List.length_append]; omega) (by omega) (by rw [hzn]; omega) hz
    have hk1 : (t.k.zip t.v).map (fun z => z.1.data.toList) = t.k.map fun k => k.data.toList := by
      have := congrArg (List.map fun k : ByteArray => k.data.toList) (List.map_fst_zip (l₁ := t.k) (l₂ := t.v) (Nat.le_of_eq h3))
      rw [List.map_map] at this
      exact this
    have hk2 : (t.k.zip t.v).map (fun z => z.2.bare) = t.v.map MT.bare := by
      have := congrArg (List.map MT.bare) hzn
      rw [List.map_map] at this
      exact this
    rw [hk1, hk2, hzn] at hl
    have hris := ris_of h4
    rw [e0, valueL_obj (nextL_cons' (by decide)), skipL_cons (by decide)]
    have := objL_yes (d := dd) (s := 123 :: (joinC (mbrs (t.k.zip t.v)) ++ 125 :: more)) (by rw [skipL_cons (by decide)]; exact hl) (ris_nodup hris)
    rw [this]
    simp only [strs_back]
    rw [sorted_ris hris, range_getD t.k ByteArray.empty]
    have hk3 : (List.range' 0 t.k.length).map (fun i => (t.v.map MT.bare).getD i (leafT 0 false ⟨#[]⟩)) = t.v.map MT.bare := by
      have := range_getD (t.v.map MT.bare) (leafT 0 false ⟨#[]⟩)
      rw [List.length_map, ← h3] at this
      exact this
    rw [hk3, show n + MT.nodesL t.v = n + (1 + MT.nodesL t.v) - 1 by omega]
theorem decode_enc {t : MT} (h : checkB t = true) (hb : NoB t) (hc : Coh t) (hl : (encJ t).length ≤ 32768) : decodeL (encJ t) = .inl t.bare := by
  obtain ⟨hs, hn⟩ := SndD.of h
  have := value_enc t 66 1 1 [] rfl hs hc hb (by omega) noSign_nil
  rw [List.append_nil] at this
  unfold decodeL
  rw [if_neg (by omega), this]
  rfl
end Go.Proofs.YtijaphbccnadbaaGreatDoor
namespace Go.Proofs.YtijaphbccnadbaaGreatDoor
open Go.RowKit Go.Shelf Go.Lib
set_option linter.unusedVariables false
set_option linter.unusedSimpArgs false
theorem valid_enc {r : Int} (h : okR r = true) : validL (enc r) = true := by
  have := valid_join (rs := [r]) (by simp [okAll, h])
  rwa [joinL_cons, show joinL [] = [] from rfl, List.append_nil] at this
set_option maxRecDepth 100000 in
theorem esc_valid {l : List UInt8} {p : List UInt8 × Nat} (h : escL l = some p) : validL p.1 = true := by
  unfold escL at h
  cases l with
  | nil => cases h
  | cons c l =>
    simp only at h
    split at h
    · split at h
      · cases h
      · rename_i r hr
        have hlt := fourL_lt hr
        split at h
        · rename_i hs
          simp only [Option.some.injEq] at h
          subst h
          exact valid_enc (okR_iff.2 (by omega))
        · split at h
          · cases h
          · split at h
            · cases h
            · rename_i low hlow
              have := lowL_len hlow
              have hq : 65536 ≤ 65536 + (r - 55296) * 1024 + (low - 56320) ∧ 65536 + (r - 55296) * 1024 + (low - 56320) ≤ 1114111 := by omega
              generalize 65536 + (r - 55296) * 1024 + (low - 56320) = q at hq h
              simp only [Option.some.injEq] at h
              subst h
              exact valid_enc (okR_iff.2 (.inr (by omega)))
    · split at h
      · cases h
      · rename_i x hx
        simp only [Option.some.injEq] at h
        subst h
        have : x = 34 ∨ x = 92 ∨ x = 47 ∨ x = 8 ∨ x = 12 ∨ x = 10 ∨ x = 13 ∨ x = 9 := by
          unfold simpleE at hx
          repeat' split at hx
          all_goals first | (simp only [Option.some.injEq] at hx; subst hx; simp) | cases hx
        rcases this with rfl | rfl | rfl | rfl | rfl | rfl | rfl | rfl <;> decide
theorem rune_valid {l : List UInt8} (hl : l ≠ []) (h : 0 ≤ (runeL l).1) : validL (l.take (runeL l).2) = true := by
  obtain ⟨h1, h2, _, _⟩ := runeL_inv l hl h
  rw [← h2]; exact valid_enc h1
theorem glue_some {x : List UInt8} {n : Nat} {o : Option (List UInt8 × Nat)} {p : List UInt8 × Nat} (h : glue x n o = some p) : ∃ q, o = some q ∧ p.1 = x ++ q.1 := by
  cases o with
  | none => cases h
  | some q => unfold glue at h; simp at h; subst h; exact ⟨q, rfl, rfl⟩
theorem unqF_valid : ∀ (f : Nat) (l : List UInt8) (p : List UInt8 × Nat), unqF f l = some p → validL p.1 = true := by
  intro f
  induction f with
  | zero => intro l p h; cases h
  | succ f ih =>
    intro l p h
    cases l with
    | nil => cases h
    | cons c l =>
      unfold unqF at h
      simp only at h
      split at h
      · simp only [Option.some.injEq] at h; subst h; rfl
      · split at h
        · split at h
          · cases h
          · rename_i x n he
            obtain ⟨q, hq, e⟩ := glue_some h
            rw [e]
            exact (valid_append (esc_valid he) (ih _ _ hq)).1
        · split at h
          · cases h
          · rename_i h32
            obtain ⟨q, hq, e⟩ := glue_some h
            rw [e]
            exact (valid_append (rune_valid (by simp) (by omega)) (ih _ _ hq)).1
theorem textL_ok {l t r : List UInt8} (h : textL l = .inl (t, r)) : validL t = true ∧ t.length ≤ 2000 := by
  refine ⟨?_, textL_len h⟩
  unfold textL at h
  split at h
  · cases h
  · rename_i t' k hq
    split at h
    · cases h
    · simp only [Sum.inl.injEq, Prod.mk.injEq] at h
      obtain ⟨rfl, _⟩ := h
      unfold unqAt at hq
      split at hq
      · obtain ⟨q, hq2, e⟩ := Option.map_eq_some_iff.1 hq
        cases e
        exact unqF_valid _ _ _ hq2
      · cases hq
theorem textL_err {l : List UInt8} {x : Int} (h : textL l = .inr x) : x = 2 ∨ x = 4 := by
  unfold textL at h
  split at h
  · cases h; exact .inl rfl
  · split at h
    · cases h; exact .inr rfl
    · cases h
theorem parseN_errs {l : List Nat} {x : Int} (h : parseN l = .inr x) : x = 2 ∨ x = 4 := by
  unfold parseN at h
  split at h
  · cases h; exact .inr rfl
  · split at h
    · cases h; exact .inl rfl
    · split at h
      · cases h; exact .inr rfl
      · cases h
structure GP (d : Nat) (u : MT) : Prop where
  sd : SndD u d
  nb : NoB u
  co : Coh u
  ba : u.bare = u
theorem nodesL_snoc (l : List MT) (t : MT) : MT.nodesL (l ++ [t]) = MT.nodesL l + t.nodes := by
  induction l with
  | nil => rw [List.nil_append, MT.nodesL_cons, MT.nodesL_nil]; omega
  | cons u l ih => rw [List.cons_append, MT.nodesL_cons, ih, MT.nodesL_cons]; omega
theorem nodesL_perm {l k : List MT} (h : l.Perm k) : MT.nodesL l = MT.nodesL k := by
  induction h with
  | nil => rfl
  | cons x _ ih => rw [MT.nodesL_cons, MT.nodesL_cons, ih]
  | swap x y l => simp only [MT.nodesL_cons]; omega
  | trans _ _ h1 h2 => exact h1.trans h2
theorem coh_mk {c : Cel} {m : List Nat} {k : List ByteArray} {v : List MT} (h : m.length = c.mn ∧ Okl m ∧ k.length = c.kn ∧ v.length = c.vn) (hv : ∀ u ∈ v, Coh u) : Coh (.mk c m k v) := by
  intro s hs
  rcases MT.sub_cases hs with rfl | ⟨u, hu, hs⟩
  · exact h
  · exact hv u hu s hs
theorem snd_mk {t : MT} {d : Nat} (hd : d ≤ 64) (h : soundB t = true) (hv : ∀ u ∈ t.v, SndD u (d + 1)) : SndD t d := by
  intro x hx
  rw [MT.pre_eq, List.mem_cons] at hx
  rcases hx with rfl | hx
  · exact ⟨hd, h⟩
  · obtain ⟨u, hu, hx⟩ := MT.mem_preL.1 hx
    exact hv u hu x hx
theorem gp_leaf {d : Nat} {k : Nat} {b : Bool} {s : ByteArray} (hd : d ≤ 64) (hk : k ≠ 5) (h : soundB (leafT (k : Int) b s) = true) : GP d (leafT (k : Int) b s) := by
  refine ⟨snd_mk hd h (fun u hu => by cases hu), NoB.iff.2 ⟨by show (k : Int) ≠ 5; omega, fun u hu => by cases hu⟩, coh_mk ⟨rfl, Okl.nil, rfl, rfl⟩ (fun u hu => by cases hu), ?_⟩
  rw [MT.bare_eq]; rfl
end Go.Proofs.YtijaphbccnadbaaGreatDoor
namespace Go.Proofs.YtijaphbccnadbaaGreatDoor
open Go.RowKit Go.Shelf Go.Lib
set_option linter.unusedVariables false
set_option linter.unusedSimpArgs false
def VG (V : List UInt8 → Nat → PRJ) (D : Nat) : Prop := ∀ l n p, D ≤ 64 → V l n = .inl p → GP D p.1 ∧ p.2.2 + 1 = n + p.1.nodes
def VE (V : List UInt8 → Nat → PRJ) : Prop := ∀ l n x, V l n = .inr x → x = 2 ∨ x = 4
theorem loop_items_good {V : List UInt8 → Nat → PRJ} {D : Nat} (hV : VG V D) :
    ∀ (f many : Nat) (us : List MT) (l : List UInt8) (n : Nat) (r : List MT × List UInt8 × Nat), loopL (itemL V) 93 D f many us l n = .inl r → us.length = many → many ≤ 300 → (∀ u ∈ us, GP D u) →
      (∀ u ∈ r.1, GP D u) ∧ r.1.length ≤ 300 ∧ r.2.2 + MT.nodesL us = n + MT.nodesL r.1 := by
  intro f
  induction f with
  | zero => intro many us l n r h; cases h
  | succ f ih =>
    intro many us l n r h hl hm hu
    unfold loopL at h
    split at h
    · simp only [Sum.inl.injEq] at h
      subst h
      exact ⟨hu, by simp only; omega, rfl⟩
    · split at h
      · cases h
      · split at h
        · rename_i hlim
          split at h
          · cases h
          · rename_i q hq
            unfold itemL at hq
            split at hq
            · cases hq
            · rename_i p hp
              simp only [Sum.inl.injEq] at hq
              subst hq
              obtain ⟨g1, g2⟩ := hV _ _ _ hlim.2.1 hp
              obtain ⟨i1, i2, i3⟩ := ih _ _ _ _ _ h (by simp; omega) (by omega) (fun u hu' => by
                rcases List.mem_append.1 hu' with h | h
                · exact hu u h
                · rw [List.mem_singleton.1 h]; exact g1)
              refine ⟨i1, i2, ?_⟩
              simp only at i3
              rw [nodesL_snoc] at i3
              omega
        · cases h
theorem loop_err {σ : Type} {P : σ → List UInt8 → Nat → (σ × List UInt8 × Nat) ⊕ Int} {c : UInt8} {D : Nat} (hP : ∀ s l n x, P s l n = .inr x → x = 2 ∨ x = 4) :
    ∀ (f many : Nat) (s : σ) (l : List UInt8) (n : Nat) (x : Int), loopL P c D f many s l n = .inr x → x = 2 ∨ x = 4 := by
  intro f
  induction f with
  | zero => intro many s l n x h; cases h; exact .inl rfl
  | succ f ih =>
    intro many s l n x h
    unfold loopL at h
    split at h
    · cases h
    · split at h
      · cases h; exact .inl rfl
      · split at h
        · split at h
          · rename_i y hy
            cases h
            exact hP _ _ _ _ hy
          · exact ih _ _ _ _ _ h
        · cases h; exact .inr rfl
theorem item_err {V : List UInt8 → Nat → PRJ} (hV : VE V) : ∀ s l n x, itemL V s l n = .inr x → x = 2 ∨ x = 4 := by
  intro s l n x h
  unfold itemL at h
  split at h
  · rename_i y hy; cases h; exact hV _ _ _ hy
  · cases h
theorem member_err {V : List UInt8 → Nat → PRJ} (hV : VE V) : ∀ s l n x, memberL V s l n = .inr x → x = 2 ∨ x = 4 := by
  intro s l n x h
  unfold memberL at h
  split at h
  · rename_i y hy; cases h; exact textL_err hy
  · split at h
    · split at h
      · rename_i y hy; cases h; exact hV _ _ _ hy
      · cases h
    · cases h; exact .inl rfl
def KG (k : List UInt8) : Prop := validL k = true ∧ k.length ≤ 2000
theorem loop_members_good {V : List UInt8 → Nat → PRJ} {D : Nat} (hV : VG V D) :
    ∀ (f many : Nat) (us : List (List UInt8) × List MT) (l : List UInt8) (n : Nat) (r : (List (List UInt8) × List MT) × List UInt8 × Nat), loopL (memberL V) 125 D f many us l n = .inl r → us.1.length = many → us.2.length = many → many ≤ 300 → (∀ k ∈ us.1, KG k) → (∀ u ∈ us.2, GP D u) →
      (∀ k ∈ r.1.1, KG k) ∧ (∀ u ∈ r.1.2, GP D u) ∧ r.1.1.length = r.1.2.length ∧ r.1.2.length ≤ 300 ∧ r.2.2 + MT.nodesL us.2 = n + MT.nodesL r.1.2 := by
  intro f
  induction f with
  | zero => intro many us l n r h; cases h
  | succ f ih =>
    intro many us l n r h hl hl2 hm hk hu
    unfold loopL at h
    split at h
    · simp only [Sum.inl.injEq] at h
      subst h
      exact ⟨hk, hu, by simp only; omega, by simp only; omega, rfl⟩
    · split at h
      · cases h
      · split at h
        · rename_i hlim
          split at h
          · cases h
          · rename_i q hq
            unfold memberL at hq
            split at hq
            · cases hq
            · rename_i t ht
              split at hq
              · split at hq
                · cases hq
                · rename_i p hp
                  simp only [Sum.inl.injEq] at hq
                  subst hq
                  obtain ⟨t1, t2⟩ := t
                  have hkg := textL_ok ht
                  obtain ⟨g1, g2⟩ := hV _ _ _ hlim.2.1 hp
                  obtain ⟨i0, i1, i2, i3, i4⟩ := ih _ _ _ _ _ h (by simp; omega) (by simp; omega) (by omega) (fun u hu' => by
                    rcases List.mem_append.1 hu' with h | h
                    · exact hk u h
                    · rw [List.mem_singleton.1 h]; exact hkg) (fun u hu' => by
                    rcases List.mem_append.1 hu' with h | h
                    · exact hu u h
                    · rw [List.mem_singleton.1 h]; exact g1)
                  refine ⟨i0, i1, i2, i3, ?_⟩
                  simp only at i4
                  rw [nodesL_snoc] at i4
                  omega
              · cases hq
        · cases h
theorem nd_inj {α : Type} {l : List α} (h : l.Nodup) {i j : Nat} (hi : i < l.length) (hj : j < l.length) (e : l[i] = l[j]) : i = j := by
  rcases Nat.lt_trichotomy i j with g | g | g
  · exact absurd e (List.pairwise_iff_getElem.1 h i j hi hj g)
  · exact g
  · exact absurd e.symm (List.pairwise_iff_getElem.1 h j i hj hi g)
theorem sorted_perm (ks : List ByteArray) : (sortedK ks).Perm (List.range' 0 ks.length) := srt_perm _ _ _ _
theorem map_sorted {α : Type} {ks : List ByteArray} {us : List α} (d : α) (h : us.length = ks.length) : ((sortedK ks).map fun i => us.getD i d).Perm us := by
  have h1 := (sorted_perm ks).map fun i => us.getD i d
  rw [← h, range_getD] at h1
  exact h1
theorem sorted_rises {ks : List (List UInt8)} (hn : ks.Nodup) (hk : ∀ k ∈ ks, KG k) : risesB ((sortedK (strs ks)).map fun i => (strs ks).getD i ByteArray.empty) = true := by
  have hlen : (sortedK (strs ks)).length = ks.length := by have := (sorted_perm (strs ks)).length_eq; simpa [strs] using this
  have hget : ∀ i, i < ks.length → (strs ks).getD i ByteArray.empty = ⟨(ks.getD i []).toArray⟩ := fun i hi => by simp [strs, List.getD, hi]
  have hin : ∀ a, a ∈ sortedK (strs ks) → a < ks.length := fun a ha => by
    have := (sorted_perm (strs ks)).mem_iff.1 ha
    rw [List.mem_range'_1] at this
    simpa [strs] using this.2
  have hnd : (sortedK (strs ks)).Nodup := (sorted_perm (strs ks)).nodup_iff.2 (List.nodup_range' (step := 1))
  have hst := srt_sorted sto_bytes (fun i => ((strs ks).getD i ByteArray.empty).toList) 0 (strs ks).length
  rw [risesB_iff]
  intro i hi
  rw [List.length_map, hlen] at hi
  have hg : ∀ j (hj : j < ks.length), ((sortedK (strs ks)).map fun i => (strs ks).getD i ByteArray.empty).getD j ByteArray.empty = ⟨(ks.getD ((sortedK (strs ks))[j]'(by omega)) []).toArray⟩ := fun j hj => by
    rw [← hget _ (hin _ (List.getElem_mem _))]
    simp [List.getD, hlen, hj]
  unfold nameAt
  rw [Bool.and_eq_true]
  constructor
  · rw [hg i hi]
    have ha := hin _ (List.getElem_mem (show i < (sortedK (strs ks)).length by omega))
    have hm : ks.getD ((sortedK (strs ks))[i]'(by omega)) [] ∈ ks := by simp [List.getD, ha]
    obtain ⟨h1, h2⟩ := hk _ hm
    unfold okN
    rw [Bool.and_eq_true]
    exact ⟨decide_eq_true (by simpa [ByteArray.size] using h2), by simpa using h1⟩
  · rw [Bool.or_eq_true]
    by_cases h0 : i = 0
    · exact .inl (decide_eq_true h0)
    · right
      rw [hg i hi, hg (i - 1) (by omega)]
      have hlt : i - 1 < i := by omega
      have hp := List.pairwise_iff_getElem.1 hst (i - 1) i (by unfold sortedK at hlen; rw [hlen]; omega) (by unfold sortedK at hlen; rw [hlen]; omega) hlt
      rw [leI_iff] at hp
      have ha := hin _ (List.getElem_mem (show i - 1 < (sortedK (strs ks)).length by omega))
      have hb := hin _ (List.getElem_mem (show i < (sortedK (strs ks)).length by omega))
      have hne : (sortedK (strs ks))[i - 1]'(by omega) ≠ (sortedK (strs ks))[i]'(by omega) := fun e => by
        have := nd_inj hnd _ _ e
        omega
      unfold ltS
      rcases hp with hp | ⟨hp, _⟩
      · unfold sortedK at ha hb ⊢
        rw [hget _ ha, hget _ hb] at hp
        exact hp
      · exfalso
        unfold sortedK at ha hb hne
        rw [hget _ ha, hget _ hb] at hp
        rw [ByteArray.toList_eq, ByteArray.toList_eq] at hp
        simp only [List.toList_toArray] at hp
        rw [List.getD_eq_getElem?_getD, List.getD_eq_getElem?_getD, List.getElem?_eq_getElem ha, List.getElem?_eq_getElem hb] at hp
        simp only [Option.getD_some] at hp
        exact hne (nd_inj hn _ _ hp)
theorem gp_num {d : Nat} {r : Bool × Nat × Int} (hd : d ≤ 64) (h : chkB r.1 (limbs r.2.1) r.2.2 = true) : GP d (bnum r) := by
  refine ⟨snd_mk hd ?_ (fun u hu => by cases hu), NoB.iff.2 ⟨by show (3 : Int) ≠ 5; decide, fun u hu => by cases hu⟩, coh_mk ⟨rfl, limbs_ok _, rfl, rfl⟩ (fun u hu => by cases hu), ?_⟩
  · show (chkB r.1 (limbs r.2.1) r.2.2 && _) = true
    rw [h]; rfl
  · rw [MT.bare_eq]; rfl
theorem gp_text {d : Nat} {t : List UInt8} (hd : d ≤ 64) (h : validL t = true ∧ t.length ≤ 2000) : GP d (btext t) := by
  refine gp_leaf (k := 4) hd (by decide) ?_
  show (validL t && (decide _ && _)) = true
  rw [h.1, Bool.true_and, Bool.and_eq_true]
  exact ⟨decide_eq_true (by rw [str_size]; exact h.2), rfl⟩
theorem gp_arr {d : Nat} {us : List MT} (hd : d ≤ 64) (hl : us.length ≤ 300) (hu : ∀ u ∈ us, GP (d + 1) u) : GP d (barr us) := by
  refine ⟨snd_mk hd ?_ (fun u h => (hu u h).sd), NoB.iff.2 ⟨by show (6 : Int) ≠ 5; decide, fun u h => (hu u h).nb⟩, coh_mk ⟨rfl, Okl.nil, rfl, rfl⟩ (fun u h => (hu u h).co), ?_⟩
  · show (decide (us.length ≤ 300) && _) = true
    rw [decide_eq_true hl]; rfl
  · rw [MT.bare_eq]
    have : us.map MT.bare = us := (List.map_congr_left (fun u h => (hu u h).ba)).trans (List.map_id us)
    show MT.mk _ _ _ (us.map MT.bare) = _
    rw [this]; rfl
theorem gp_obj {d : Nat} {ks : List ByteArray} {us : List MT} (hd : d ≤ 64) (hl : us.length ≤ 300) (hk : ks.length = us.length) (hr : risesB ks = true) (hu : ∀ u ∈ us, GP (d + 1) u) : GP d (bobj ks us) := by
  refine ⟨snd_mk hd ?_ (fun u h => (hu u h).sd), NoB.iff.2 ⟨by show (7 : Int) ≠ 5; decide, fun u h => (hu u h).nb⟩, coh_mk ⟨rfl, Okl.nil, rfl, rfl⟩ (fun u h => (hu u h).co), ?_⟩
  · show (decide (ks.length = us.length) && (risesB ks && (decide (us.length ≤ 300) && _))) = true
    rw [decide_eq_true hk, hr, decide_eq_true hl]; rfl
  · rw [MT.bare_eq]
    have : us.map MT.bare = us := (List.map_congr_left (fun u h => (hu u h).ba)).trans (List.map_id us)
    show MT.mk _ _ _ (us.map MT.bare) = _
    rw [this]; rfl
theorem leaf_nodes (k : Int) (b : Bool) (s : ByteArray) : (leafT k b s).nodes = 1 := by rw [MT.nodes_eq]; rfl
theorem word_good {d n : Nat} {W : List UInt8} {t : MT} {s : List UInt8} {p : MT × List UInt8 × Nat} (ht : GP d t) (h1 : t.nodes = 1) (h : wordL W t s n = .inl p) : GP d p.1 ∧ p.2.2 + 1 = n + p.1.nodes := by
  unfold wordL at h
  split at h
  · simp only [Sum.inl.injEq] at h; subst h; exact ⟨ht, by simp only [h1]⟩
  · cases h
theorem word_err {n : Nat} {W : List UInt8} {t : MT} {s : List UInt8} {x : Int} (h : wordL W t s n = .inr x) : x = 2 ∨ x = 4 := by
  unfold wordL at h
  split at h
  · cases h
  · cases h; exact .inl rfl
theorem valueL_good : ∀ f d, VG (valueL f d) d ∧ VE (valueL f d) := by
  intro f
  induction f with
  | zero => intro d; exact ⟨(fun l n p _ h => by cases h), (fun l n x h => by cases h; exact .inl rfl)⟩
  | succ f ih =>
    intro d
    obtain ⟨iv, ie⟩ := ih (d + 1)
    constructor
    · intro l n p hd h
      rw [valueL] at h
      unfold valueW at h
      split at h
      · exact word_good (gp_leaf (k := 1) hd (by decide) rfl) (leaf_nodes _ _ _) h
      split at h
      · exact word_good (gp_leaf (k := 2) hd (by decide) rfl) (leaf_nodes _ _ _) h
      split at h
      · exact word_good (gp_leaf (k := 2) hd (by decide) rfl) (leaf_nodes _ _ _) h
      split at h
      · unfold numP at h
        split at h
        · cases h
        · rename_i r hr
          simp only [Sum.inl.injEq] at h
          subst h
          unfold numL at hr
          split at hr
          · cases hr
          · rename_i q hq
            simp only [Sum.inl.injEq] at hr
            subst hr
            exact ⟨gp_num hd (parseN_lim hq).2.2.2, by show n + 1 = n + (bnum q).nodes; rw [MT.nodes_eq]; rfl⟩
      split at h
      · unfold textP at h
        split at h
        · cases h
        · rename_i r hr
          simp only [Sum.inl.injEq] at h
          subst h
          exact ⟨gp_text hd (textL_ok hr), by show n + 1 = n + (btext r.1).nodes; rw [btext, leaf_nodes]⟩
      split at h
      · unfold arrL at h
        split at h
        · cases h
        · rename_i r hr
          simp only [Sum.inl.injEq] at h
          subst h
          obtain ⟨g1, g2, g3⟩ := loop_items_good iv _ _ _ _ _ _ hr rfl (by decide) (fun u hu => by cases hu)
          rw [MT.nodesL_nil] at g3
          exact ⟨gp_arr hd g2 g1, by show r.2.2 + 1 = n + (barr r.1).nodes; rw [MT.nodes_eq]; show _ = n + (1 + MT.nodesL r.1); omega⟩
      split at h
      · unfold objL at h
        split at h
        · cases h
        · rename_i r hr
          obtain ⟨g0, g1, g2, g3, g4⟩ := loop_members_good iv _ _ _ _ _ _ hr rfl rfl (by decide) (fun u hu => by cases hu) (fun u hu => by cases hu)
          rw [MT.nodesL_nil] at g4
          split at h
          · rename_i hnd
            simp only [Sum.inl.injEq] at h
            subst h
            have hsl : (strs r.1.1).length = r.1.1.length := by simp [strs]
            have hpu := map_sorted (ks := strs r.1.1) (us := r.1.2) (leafT 0 false ⟨#[]⟩) (by omega)
            have hpk := map_sorted (ks := strs r.1.1) (us := strs r.1.1) ByteArray.empty rfl
            refine ⟨gp_obj hd (by rw [hpu.length_eq]; exact g3) (by rw [hpu.length_eq, hpk.length_eq]; omega) (sorted_rises hnd g0) (fun u hu => g1 u (hpu.mem_iff.1 hu)), ?_⟩
            show r.2.2 + 1 = n + (bobj _ _).nodes
            rw [MT.nodes_eq]
            show _ = n + (1 + MT.nodesL ((sortedK (strs r.1.1)).map fun i => r.1.2.getD i (leafT 0 false ⟨#[]⟩)))
            rw [nodesL_perm hpu]
            omega
          · cases h
      · cases h
    · intro l n x h
      rw [valueL] at h
      unfold valueW at h
      split at h
      · exact word_err h
      split at h
      · exact word_err h
      split at h
      · exact word_err h
      split at h
      · unfold numP at h
        split at h
        · rename_i y hy
          cases h
          unfold numL at hy
          split at hy
          · rename_i z hz; cases hy; exact parseN_errs hz
          · cases hy
        · cases h
      split at h
      · unfold textP at h
        split at h
        · rename_i y hy; cases h; exact textL_err hy
        · cases h
      split at h
      · unfold arrL at h
        split at h
        · rename_i y hy; cases h; exact loop_err (item_err ie) _ _ _ _ _ _ hy
        · cases h
      split at h
      · unfold objL at h
        split at h
        · rename_i y hy; cases h; exact loop_err (member_err ie) _ _ _ _ _ _ hy
        · split at h
          · cases h
          · cases h; exact .inl rfl
      · cases h; exact .inl rfl
theorem decodeL_ok {l : List UInt8} {u : MT} (h : decodeL l = .inl u) : checkB u = true ∧ NoB u ∧ Coh u ∧ u.bare = u := by
  unfold decodeL at h
  split at h
  · cases h
  · split at h
    · cases h
    · rename_i r hr
      split at h
      · simp only [Sum.inl.injEq] at h
        subst h
        obtain ⟨g, hc⟩ := (valueL_good 66 1).1 _ _ _ (by decide) hr
        have he := (valueL_eats 66 1 l 1 r hr).2 (by decide)
        refine ⟨?_, g.nb, g.co, g.ba⟩
        unfold checkB
        rw [Bool.and_eq_true]
        refine ⟨decide_eq_true (by omega), List.all_eq_true.2 fun x hx => ?_⟩
        obtain ⟨h1, h2⟩ := g.sd x hx
        rw [decide_eq_true h1, h2]; rfl
      · cases h
theorem decodeL_err {l : List UInt8} {x : Int} (h : decodeL l = .inr x) : x = 2 ∨ x = 4 := by
  unfold decodeL at h
  split at h
  · cases h; exact .inr rfl
  · split at h
    · rename_i y hy; cases h; exact (valueL_good 66 1).2 _ _ _ hy
    · split at h
      · cases h
      · cases h; exact .inl rfl
end Go.Proofs.YtijaphbccnadbaaGreatDoor
