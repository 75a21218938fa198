/- Texts of the claim. -/
import Derived.Test.YtgolidabjcmofaaGreatDoorQ4
import Derived.Test.YtgolidabjcmofaaGreatDoorQWh
namespace Go.Proofs.YtgolidabjcmofaaGreatDoor
open Go.Shelf Go.RowKit Go.Lib Go.Sort
set_option linter.unusedVariables false
set_option linter.unusedSimpArgs false
def awIn : List UInt8 := [123, 34, 98, 34, 58, 49, 44, 34, 97, 34, 58, 91, 116, 114, 117, 101, 93, 125]
def awOut : List UInt8 := [123, 34, 97, 34, 58, 91, 116, 114, 117, 101, 93, 44, 34, 98, 34, 58, 49, 125]
def awJ : MT := bobj [⟨#[97]⟩, ⟨#[98]⟩] [barr [leafT 2 true ⟨#[]⟩], bnum (false, 1, 0)]
theorem valueL_obj {f d n : Nat} {l : List UInt8} (h : nextL l = 123) : valueL (f + 1) d l n = objL (valueL f (d + 1)) d n (skipL l) := by
  unfold valueL valueW
  rw [h]
  rfl
theorem valueL_arr {f d n : Nat} {l : List UInt8} (h : nextL l = 91) : valueL (f + 1) d l n = arrL (valueL f (d + 1)) d n (skipL l) := by
  unfold valueL valueW
  rw [h]
  rfl
theorem valueL_num {f d n : Nat} {l : List UInt8} (h : (nextL l).toNat = 45 ∨ 48 ≤ (nextL l).toNat ∧ (nextL l).toNat ≤ 57) : valueL (f + 1) d l n = numP (skipL l) n := by
  unfold valueL valueW
  rw [if_neg (by omega), if_neg (by omega), if_neg (by omega), if_pos h]
theorem sort_two : sortedK [⟨#[98]⟩, ⟨#[97]⟩] = [1, 0] := by
  show srt Op.bytesLess (keyB [⟨#[98]⟩, ⟨#[97]⟩]) 0 2 = [1, 0]
  refine (srt_unique sto_bytes _ _ _ _ (by decide) ?_).symm
  have hk : ∀ (l : List ByteArray) (i : Nat), keyB l i = (l.getD i ByteArray.empty).data.toList := fun l i => by unfold keyB; rw [ByteArray.toList_eq]
  simp only [List.pairwise_cons, leI_iff, hk]
  decide
set_option maxRecDepth 100000 in
theorem aw_loop : loopL (memberL (valueL 65 2)) 125 2 (awIn.length + 1) 0 ([], []) (skipL awIn).tail 1 = .inl (([[98], [97]], [bnum (false, 1, 0), barr [leafT 2 true ⟨#[]⟩]]), [], 4) := by kernel_rfl
theorem aw_val : valueL 66 1 awIn 1 = .inl (awJ, [], 4) := by
  rw [valueL_obj (show nextL awIn = 123 by kernel_rfl)]
  have h := objL_yes (V := valueL 65 2) (d := 1) (n := 1) (s := skipL awIn) (q := (([[98], [97]], [bnum (false, 1, 0), barr [leafT 2 true ⟨#[]⟩]]), [], 4)) aw_loop (by decide)
  rw [show strs [[98], [97]] = [⟨#[98]⟩, ⟨#[97]⟩] from rfl, sort_two] at h
  exact h
theorem aw_dec : decodeL awIn = .inl awJ := by
  unfold decodeL
  rw [if_neg (by decide), aw_val]
  rfl
set_option maxRecDepth 100000 in
theorem aw_enc : encJ awJ = awOut := by kernel_rfl
set_option maxRecDepth 100000 in
theorem aw_check : checkB awJ = true := by kernel_rfl
theorem soundB_bare (t : MT) : soundB t.bare = soundB t := by
  rw [MT.bare_eq]
  obtain ⟨⟨k, b, neg, ma, mn, mc, e, s, ka, kn, kc, va, vn, vc⟩, m, ks, vs⟩ := t
  rfl
theorem encJ_bare (t : MT) : encJ t.bare = encJ t := by
  refine MT.ind (P := fun t => encJ t.bare = encJ t) ?_ t
  intro t ih
  rw [encJ_eq t.bare, encJ_eq t, MT.bare_eq]
  obtain ⟨c, m, ks, vs⟩ := t
  simp only [MT.c, MT.m, MT.k, MT.v, Cel.bare] at ih ⊢
  have e : (vs.map MT.bare).map encJ = vs.map encJ := by
    rw [List.map_map]
    exact List.map_congr_left ih
  rw [e]
  rfl
theorem pre_bare (t : MT) : ∀ d, t.bare.pre d = (t.pre d).map fun x => (x.1, x.2.bare) := by
  refine MT.ind (P := fun t => ∀ d, t.bare.pre d = (t.pre d).map fun x => (x.1, x.2.bare)) ?_ t
  intro t ih d
  rw [MT.bare_eq, MT.pre_eq, MT.pre_eq, List.map_cons, MT.bare_eq]
  congr 1
  have key : ∀ l : List MT, (∀ u ∈ l, ∀ d, u.bare.pre d = (u.pre d).map fun x => (x.1, x.2.bare)) → MT.preL (l.map MT.bare) (d + 1) = (MT.preL l (d + 1)).map fun x => (x.1, x.2.bare) := by
    intro l
    induction l with
    | nil => intro _; rw [List.map_nil, MT.preL_nil]; rfl
    | cons u l ih2 =>
      intro h
      rw [List.map_cons, MT.preL_cons, MT.preL_cons, List.map_append, h u (by simp), ih2 (fun x hx => h x (by simp [hx]))]
  exact key t.v ih
theorem nodes_bare (t : MT) : t.bare.nodes = t.nodes := by
  rw [← t.bare.pre_len 0, ← t.pre_len 0, pre_bare, List.length_map]
theorem checkB_bare (t : MT) : checkB t.bare = checkB t := by
  unfold checkB
  rw [nodes_bare, pre_bare, List.all_map]
  congr 1
  apply List.all_congr rfl
  intro x
  simp only [Function.comp, soundB_bare]
theorem noB_bare (t : MT) : NoB t.bare ↔ NoB t := by
  have key : ∀ t : MT, NoB t ↔ ∀ x ∈ t.pre 0, x.2.c.k ≠ 5 := by
    intro t
    constructor
    · intro h x hx; exact h x.2 ⟨x.1, hx⟩
    · rintro h s ⟨n, hn⟩; exact h _ hn
  rw [key, key, pre_bare]
  simp only [List.mem_map, forall_exists_index, and_imp]
  constructor
  · intro h x hx
    have := h _ x hx rfl
    rw [MT.bare_eq] at this
    exact this
  · rintro h _ x hx rfl
    have := h x hx
    rw [MT.bare_eq]
    exact this
theorem encodeL_of {t u : MT} (h : t.bare = u) : encodeL t = encodeL u := by
  have h1 : checkB t = checkB u := by rw [← checkB_bare t, h]
  have h2 : encJ t = encJ u := by rw [← encJ_bare t, h]
  have h3 : NoB t ↔ NoB u := by rw [← noB_bare t, h]
  unfold encodeL
  rw [h1, h2]
  by_cases hn : NoB t
  · simp only [hn, h3.1 hn]
  · have hu : ¬ NoB u := fun h => hn (h3.2 h)
    simp only [hn, hu]
theorem encodeL_yes {t : MT} (h : checkB t = true) (h2 : NoB t) (h3 : (encJ t).length ≤ 32768) : encodeL t = .inl (encJ t) := by unfold encodeL; rw [if_neg (by rw [h]; decide), if_pos h2, if_pos h3]
theorem noB_leaf {t : MT} (h : t.c.k ≠ 5) (h2 : t.v = []) : NoB t := NoB.iff.2 ⟨h, by rw [h2]; nofun⟩
theorem aw_nob : NoB awJ := by
  refine NoB.iff.2 ⟨by decide, fun u hu => ?_⟩
  have hu : u ∈ [barr [leafT 2 true ⟨#[]⟩], bnum (false, 1, 0)] := hu
  rcases List.mem_cons.1 hu with rfl | hu
  · refine NoB.iff.2 ⟨by decide, fun u hu => ?_⟩
    have hu : u ∈ [leafT 2 true ⟨#[]⟩] := hu
    rw [List.mem_singleton.1 hu]
    exact noB_leaf (by decide) rfl
  · rw [List.mem_singleton.1 hu]
    exact noB_leaf (by decide) rfl
theorem aw_encode {t : MT} (h : t.bare = awJ) : encodeL t = .inl awOut := by
  rw [encodeL_of h, encodeL_yes aw_check aw_nob (by rw [aw_enc]; decide), aw_enc]
set_option maxHeartbeats 4000000 in
set_option maxRecDepth 100000 in
/-- The document's example. -/
theorem awakeJ_any (w : World) (hU : UT w) (hT : TB w) : Calls Tryz.prog 10 #[] w (BoolBelow true w) := by
  have KD := Lib.hid (decode_anyj awIn w (by decide) hU)
  rw [aw_dec] at KD
  have HU := Lib.hid hU; have HT := Lib.hid hT
  clear hU hT
  unfold awIn DecPost at KD
  go_enter Tryz.func10, Tryz.ntmps10
  go_wp2_with fail
  refine KD.out.mono ?_
  rintro r w1 ⟨t, rfl, hbare, hR, hb⟩
  have KE := Lib.hid (fun W (h : Below w1.heap.size w1 W) => encode_anyj t W (hR.on h) (HU.out.below (hb.trans (h.mono hb.size))) (HT.out.below (hb.trans (h.mono hb.size))))
  rw [aw_encode hbare] at KE
  unfold EncPost awOut at KE
  have HB := Lib.hid hb
  clear hb hR hbare KD
  generalize t.c = c at *
  obtain ⟨k, b0, neg, ma, mn, mc, e, s, ka, kn, kc, va, vn, vc⟩ := c
  unfold Cel.val at *
  have hb2 : Below w1.heap.size w1 (w1.alloc (.cells #[.int .i64 k, .bool b0, .bool neg, .slice ma mn mc, .int .i64 e, .string s, .slice ka kn kc, .slice va vn vc] 28)) := (Below.refl _ _).alloc (Nat.le_refl _) _
  have KE2 := Lib.hid (KE.out _ hb2)
  have HB2 := Lib.hid hb2
  clear hb2 KE
  go_wp2_with fail
  refine KE2.out.mono ?_
  rintro r w3 ⟨rfl, hb3⟩
  have HB3 := Lib.hid (HB.out.trans ((HB2.out.trans (hb3.mono HB2.out.size)).mono HB.out.size))
  clear hb3 KE2
  go_wp2
  go_ret
  exact BoolBelow.mk rfl HB3.out
end Go.Proofs.YtgolidabjcmofaaGreatDoor
namespace Go.Proofs.YtgolidabjcmofaaGreatDoor
open Go.Shelf Go.RowKit Go.Lib Go.Sort
set_option linter.unusedVariables false
set_option linter.unusedSimpArgs false
theorem skipL_cons {x : UInt8} {r : List UInt8} (h : blanksL.contains x = false) : skipL (x :: r) = x :: r := by
  unfold skipL Lib.trimLeftS
  rw [List.dropWhile_cons, if_neg (by rw [h]; decide)]
theorem nextL_cons' {x : UInt8} {r : List UInt8} (h : blanksL.contains x = false) : nextL (x :: r) = x := nextL_cons (skipL_cons h)
def NoSign (l : List UInt8) : Prop := ∀ x r, l = x :: r → signsL.contains x = false
theorem noSign_nil : NoSign [] := fun _ _ h => by cases h
theorem noSign_cons {x : UInt8} (r : List UInt8) (h : signsL.contains x = false) : NoSign (x :: r) := fun y s e => by cases e; exact h
theorem trim_stop {l : List UInt8} (h : NoSign l) : Lib.trimLeftS l signsL = l := by
  unfold Lib.trimLeftS
  cases l with
  | nil => rfl
  | cons x r => rw [List.dropWhile_cons, if_neg (by rw [h x r rfl]; decide)]
theorem trim_signs {p l : List UInt8} (hp : ∀ x ∈ p, signsL.contains x = true) (h : NoSign l) : Lib.trimLeftS (p ++ l) signsL = l := by
  induction p with
  | nil => exact trim_stop h
  | cons x p ih =>
    have h1 := hp x (by simp)
    unfold Lib.trimLeftS at ih ⊢
    rw [List.cons_append, List.dropWhile_cons, if_pos h1]
    exact ih (fun y hy => hp y (by simp [hy]))
theorem numL_signs {p l : List UInt8} (hp : ∀ x ∈ p, signsL.contains x = true) (h : NoSign l) : numL (p ++ l) = match parseN (p.map UInt8.toNat) with | .inr x => .inr x | .inl r => .inl (r, l) := by
  unfold numL
  rw [trim_signs hp h]
  have e : (p ++ l).take ((p ++ l).length - l.length) = p := by
    rw [List.length_append, Nat.add_sub_cancel]; exact List.take_left' rfl
  rw [e]
  cases parseN (p.map UInt8.toNat) <;> rfl
theorem numP_one {l : List UInt8} {n : Nat} (h : NoSign l) : numP (49 :: l) n = .inl (bnum (false, 1, 0), l, n) := by
  unfold numP
  have h1 : numL ([49] ++ l) = .inl ((false, 1, 0), l) := by
    rw [numL_signs (by decide) h]
    rw [show parseN (([49] : List UInt8).map UInt8.toNat) = .inl (false, 1, 0) by kernel_rfl]
  rw [show (49 : UInt8) :: l = [49] ++ l from rfl, h1]
theorem numP_zero {l : List UInt8} {n : Nat} (h : NoSign l) : numP (48 :: l) n = .inl (bnum (false, 0, 0), l, n) := by
  unfold numP
  have h1 : numL ([48] ++ l) = .inl ((false, 0, 0), l) := by
    rw [numL_signs (by decide) h]
    rw [show parseN (([48] : List UInt8).map UInt8.toNat) = .inl (false, 0, 0) by kernel_rfl]
  rw [show (48 : UInt8) :: l = [48] ++ l from rfl, h1]
def towerT : Nat → MT
  | 0 => bnum (false, 1, 0)
  | d + 1 => barr [towerT d]
def towL (d : Nat) (more : List UInt8) : List UInt8 := List.replicate d 91 ++ 49 :: (List.replicate d 93 ++ more)
theorem towL_zero (more : List UInt8) : towL 0 more = 49 :: more := rfl
theorem towL_succ (d : Nat) (more : List UInt8) : towL (d + 1) more = 91 :: towL d (93 :: more) := by
  unfold towL
  rw [List.replicate_succ, List.cons_append]
  congr 2
  congr 1
  rw [List.replicate_succ']
  simp
theorem towL_next (d : Nat) (more : List UInt8) : skipL (towL d more) = towL d more ∧ (nextL (towL d more) = 91 ∨ nextL (towL d more) = 49) := by
  cases d with
  | zero => rw [towL_zero]; exact ⟨skipL_cons (by decide), .inr (nextL_cons' (by decide))⟩
  | succ d => rw [towL_succ]; exact ⟨skipL_cons (by decide), .inl (nextL_cons' (by decide))⟩
theorem valueL_tower : ∀ (d f dd n : Nat) (more : List UInt8), dd + f = 67 → dd ≤ 64 → n + d ≤ 2000 → NoSign more →
    valueL f dd (towL d more) n = if dd + d ≤ 64 then .inl (towerT d, more, n + d) else .inr 4 := by
  intro d
  induction d with
  | zero =>
    intro f dd n more h1 h2 h3 h4
    obtain ⟨f, rfl⟩ : ∃ g, f = g + 1 := ⟨f - 1, by omega⟩
    rw [towL_zero, valueL_num (by rw [nextL_cons' (by decide)]; decide), skipL_cons (by decide), numP_one h4, if_pos (by omega)]
    rfl
  | succ d ih =>
    intro f dd n more h1 h2 h3 h4
    obtain ⟨f, rfl⟩ : ∃ g, f = g + 1 := ⟨f - 1, by omega⟩
    rw [towL_succ, valueL_arr (nextL_cons' (by decide)), skipL_cons (by decide)]
    obtain ⟨e1, e2⟩ := towL_next d (93 :: more)
    have hne : nextL (towL d (93 :: more)) ≠ 93 := by rcases e2 with e | e <;> rw [e] <;> decide
    have hs : (skipL (91 :: towL d (93 :: more))).tail = towL d (93 :: more) := by rw [skipL_cons (by decide)]; rfl
    by_cases hl : dd + 1 ≤ 64
    · have hi := ih f (dd + 1) (n + 1) (93 :: more) (by omega) hl (by omega) (noSign_cons _ (by decide))
      by_cases h5 : dd + (d + 1) ≤ 64
      · rw [if_pos (by omega)] at hi
        rw [if_pos h5]
        have hq : itemL (valueL f (dd + 1)) [] (if 0 < 0 then (skipL (towL d (93 :: more))).tail else skipL (towL d (93 :: more))) (n + 1) = .inl ([towerT d], 93 :: more, n + 1 + d) := by
          rw [if_neg (by decide), e1, itemL_yes hi]; rfl
        have hloop : loopL (itemL (valueL f (dd + 1))) 93 (dd + 1) ((91 :: towL d (93 :: more)).length + 1) 0 [] (skipL (91 :: towL d (93 :: more))).tail n = .inl ([towerT d], more, n + 1 + d) := by
          rw [hs, loopL_on hne (fun h => absurd h.1 (by decide)) ⟨by decide, hl, by omega⟩ hq, List.length_cons, loopL_end (nextL_cons' (by decide)), skipL_cons (by decide)]
          rfl
        rw [arrL_yes hloop, show n + 1 + d = n + (d + 1) by omega]
        rfl
      · rw [if_neg (by omega)] at hi
        rw [if_neg h5]
        refine arrL_no ?_
        rw [hs]
        exact loopL_bad hne (fun h => absurd h.1 (by decide)) ⟨by decide, hl, by omega⟩ (by rw [if_neg (by decide), e1]; exact itemL_no hi)
    · rw [if_neg (by omega)]
      refine arrL_no ?_
      rw [hs]
      exact loopL_limit hne (fun h => absurd h.1 (by decide)) (fun h => hl h.2.1)
theorem towL_len (d : Nat) : (towL d []).length = 2 * d + 1 := by unfold towL; simp; omega
theorem decodeL_tower (d : Nat) (hd : d < 80) : decodeL (towL d []) = if d < 64 then .inl (towerT d) else .inr 4 := by
  unfold decodeL
  rw [if_neg (by rw [towL_len]; omega), valueL_tower d 66 1 1 [] rfl (by decide) (by omega) noSign_nil]
  by_cases h : d < 64
  · rw [if_pos (by omega), if_pos h]; rfl
  · rw [if_neg (by omega), if_neg h]
def itsL : Nat → List UInt8
  | 0 => []
  | i + 1 => itsL i ++ (cmaL i ++ [48])
def moreL (k : Nat) (e : List UInt8) : List UInt8 := (List.replicate k [44, 48]).flatten ++ e
theorem itsL_eq (k : Nat) (e : List UInt8) : itsL (k + 1) ++ e = 48 :: moreL k e := by
  induction k generalizing e with
  | zero => rfl
  | succ k ih =>
    show itsL (k + 1) ++ (cmaL (k + 1) ++ [48]) ++ e = _
    rw [List.append_assoc, ih]
    unfold moreL cmaL
    rw [if_pos (by omega), List.replicate_succ', List.flatten_append]
    simp
theorem moreL_zero (e : List UInt8) : moreL 0 e = e := rfl
theorem moreL_succ (k : Nat) (e : List UInt8) : moreL (k + 1) e = 44 :: 48 :: moreL k e := by unfold moreL; rw [List.replicate_succ]; rfl
theorem moreL_nosign (k : Nat) : NoSign (moreL k [93]) := by
  cases k with
  | zero => exact noSign_cons _ (by decide)
  | succ k => rw [moreL_succ]; exact noSign_cons _ (by decide)
theorem value_nought {f d n : Nat} {l : List UInt8} (h : NoSign l) : valueL (f + 1) d (48 :: l) n = .inl (bnum (false, 0, 0), l, n) := by
  rw [valueL_num (by rw [nextL_cons' (by decide)]; decide), skipL_cons (by decide), numP_zero h]
theorem loop_noughts : ∀ (k g many n : Nat) (us : List MT), k < g → 0 < many → n + k ≤ 2000 → many ≤ 300 →
    (many + k ≤ 300 → ∃ vs, loopL (itemL (valueL 65 2)) 93 2 g many us (moreL k [93]) n = .inl (vs, [], n + k)) ∧ (300 < many + k → loopL (itemL (valueL 65 2)) 93 2 g many us (moreL k [93]) n = .inr 4) := by
  intro k
  induction k with
  | zero =>
    intro g many n us hg hm hn hm3
    obtain ⟨g, rfl⟩ : ∃ q, g = q + 1 := ⟨g - 1, by omega⟩
    refine ⟨fun _ => ⟨us, ?_⟩, fun h => by omega⟩
    rw [moreL_zero, loopL_end (nextL_cons' (by decide)), skipL_cons (by decide)]
    rfl
  | succ k ih =>
    intro g many n us hg hm hn hm3
    obtain ⟨g, rfl⟩ : ∃ q, g = q + 1 := ⟨g - 1, by omega⟩
    rw [moreL_succ]
    have hne : nextL (44 :: 48 :: moreL k [93]) ≠ 93 := by rw [nextL_cons' (by decide)]; decide
    have hc : ¬ (0 < many ∧ nextL (44 :: 48 :: moreL k [93]) ≠ 44) := fun h => h.2 (nextL_cons' (by decide))
    by_cases hlim : many < 300
    · have hq : itemL (valueL 65 2) us (if 0 < many then (skipL (44 :: 48 :: moreL k [93])).tail else skipL (44 :: 48 :: moreL k [93])) (n + 1) = .inl (us ++ [bnum (false, 0, 0)], moreL k [93], n + 1) := by
        rw [if_pos hm, skipL_cons (by decide)]
        exact itemL_yes (value_nought (moreL_nosign k))
      rw [loopL_on hne hc ⟨hlim, by decide, by omega⟩ hq]
      have h2 := ih g (many + 1) (n + 1) (us ++ [bnum (false, 0, 0)]) (by omega) (by omega) (by omega) (by omega)
      refine ⟨fun h => ?_, fun h => h2.2 (by omega)⟩
      obtain ⟨vs, hv⟩ := h2.1 (by omega)
      exact ⟨vs, by rw [hv, show n + 1 + k = n + (k + 1) by omega]⟩
    · refine ⟨fun h => by omega, fun _ => loopL_limit hne hc (fun h => hlim h.1)⟩
theorem decodeL_noughts (w : Nat) (hw : w < 320) : (w ≤ 300 → ∃ t, decodeL (91 :: (itsL w ++ [93])) = .inl t) ∧ (300 < w → decodeL (91 :: (itsL w ++ [93])) = .inr 4) := by
  have hlen : ∀ w, (itsL w).length ≤ 2 * w := by
    intro w
    induction w with
    | zero => simp [itsL]
    | succ w ih => unfold itsL cmaL; rw [List.length_append, List.length_append]; split <;> simp <;> omega
  have hl := hlen w
  have h0 : ¬ 32768 < (91 :: (itsL w ++ [93])).length := by simp; omega
  unfold decodeL
  rw [if_neg h0, valueL_arr (nextL_cons' (by decide)), skipL_cons (by decide)]
  have hs : (skipL (91 :: (itsL w ++ [93]))).tail = itsL w ++ [93] := by rw [skipL_cons (by decide)]; rfl
  cases w with
  | zero =>
    refine ⟨fun _ => ?_, fun h => by omega⟩
    have hloop : loopL (itemL (valueL 65 2)) 93 (1 + 1) ((91 :: (itsL 0 ++ [93])).length + 1) 0 [] (skipL (91 :: (itsL 0 ++ [93]))).tail 1 = .inl ([], [], 1) := by kernel_rfl
    rw [arrL_yes hloop]
    exact ⟨_, rfl⟩
  | succ w =>
    have e := itsL_eq w [93]
    have hne : nextL (48 :: moreL w [93]) ≠ 93 := by rw [nextL_cons' (by decide)]; decide
    have hq : itemL (valueL 65 2) [] (if 0 < 0 then (skipL (48 :: moreL w [93])).tail else skipL (48 :: moreL w [93])) (1 + 1) = .inl ([bnum (false, 0, 0)], moreL w [93], 1 + 1) := by
      rw [if_neg (by decide), skipL_cons (by decide)]
      exact itemL_yes (value_nought (moreL_nosign w))
    have h2 := loop_noughts w (91 :: (itsL (w + 1) ++ [93])).length 1 (1 + 1) [bnum (false, 0, 0)] (by rw [e]; simp [moreL]; omega) (by omega) (by omega) (by omega)
    have hfull : loopL (itemL (valueL 65 (1 + 1))) 93 (1 + 1) ((91 :: (itsL (w + 1) ++ [93])).length + 1) 0 [] (skipL (91 :: (itsL (w + 1) ++ [93]))).tail 1 = loopL (itemL (valueL 65 2)) 93 2 (91 :: (itsL (w + 1) ++ [93])).length 1 [bnum (false, 0, 0)] (moreL w [93]) (1 + 1) := by
      rw [hs, e]
      exact loopL_on hne (fun h => absurd h.1 (by decide)) ⟨by decide, by decide, by decide⟩ hq
    refine ⟨fun h => ?_, fun h => ?_⟩
    · obtain ⟨vs, hv⟩ := h2.1 (by omega)
      rw [arrL_yes (hfull.trans hv)]
      exact ⟨_, rfl⟩
    · rw [arrL_no (hfull.trans (h2.2 (by omega)))]
end Go.Proofs.YtgolidabjcmofaaGreatDoor
