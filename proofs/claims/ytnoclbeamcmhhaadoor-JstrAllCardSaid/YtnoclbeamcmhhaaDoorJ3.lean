/- Texts as JSON has them, by themselves: a run of bytes that stand for themselves; what is quoted is unquoted; cut it is none; code points by digits. No program. -/
import Derived.Test.YtnoclbeamcmhhaaDoorJ1
namespace Go.Proofs.YtnoclbeamcmhhaaDoor
set_option linter.unusedVariables false
set_option linter.unusedSimpArgs false

/-- Behind a run of bytes that stand for themselves: what is no UTF-8 is none. -/
theorem unqL_run : ∀ (m : Nat) (run rest : List UInt8), run.length ≤ m → (∀ c ∈ run, plainB c = true) → (rest = [] ∨ plainB (rest.getD 0 0) = false) →
    unqL (run ++ rest) = if validL run then glue run run.length (unqL rest) else none := by
  intro m
  induction m with
  | zero =>
    intro run rest h _ _
    have : run = [] := List.eq_nil_of_length_eq_zero (by omega)
    subst this
    rw [if_pos (by rfl)]; simp [glue_nil]
  | succ m ih =>
    intro run rest h hp hr
    cases run with
    | nil => rw [if_pos (by rfl)]; simp [glue_nil]
    | cons c l =>
      have hc := plainB_iff.1 (hp c (by simp))
      have hw := runeL_width (c :: l) (by simp)
      by_cases h0 : 0 ≤ (runeL (c :: l)).1
      · obtain ⟨h1, h2, _, _⟩ := runeL_inv (c :: l) (by simp) h0
        generalize hR : (runeL (c :: l)).1 = r at *
        have hlen : (enc r).length = (runeL (c :: l)).2 := by rw [h2, List.length_take]; omega
        generalize (runeL (c :: l)).2 = k at *
        have e : c :: l = enc r ++ (c :: l).drop k := by rw [h2, List.take_append_drop]
        have hr32 : 32 ≤ r := enc_plain h1 (fun x hx => hp x (by rw [h2] at hx; exact List.mem_of_mem_take hx))
        have hru : runeL (c :: (l ++ rest)) = (r, k) := by
          have := runeL_enc h1 ((c :: l).drop k ++ rest)
          rw [← List.append_assoc, ← e, hlen] at this; exact this
        have hv : validL (c :: l) = validL ((c :: l).drop k) := by
          rw [valid_cons (by simp), hR, decide_eq_true h0, Bool.true_and]
          have : runeL (c :: l) = (r, k) := by
            have := runeL_enc h1 ((c :: l).drop k)
            rw [← e, hlen] at this; exact this
          rw [this]
        have hu := unqL_rune (c := c) hc.2.1 hc.2.2 (l := l ++ rest) (by rw [hru]; show ¬ r < 32; omega)
        rw [hru] at hu
        simp only at hu
        have ht : (c :: (l ++ rest)).take k = (c :: l).take k := by
          rw [← List.cons_append, List.take_append_of_le_length (by omega)]
        have hd : (c :: (l ++ rest)).drop k = (c :: l).drop k ++ rest := by
          rw [← List.cons_append, List.drop_append_of_le_length (by omega)]
        rw [ht, hd] at hu
        rw [List.cons_append, hu, ih ((c :: l).drop k) rest (by rw [List.length_drop]; omega) (fun x hx => hp x (List.mem_of_mem_drop hx)) hr, hv]
        split
        · rw [glue_glue, List.take_append_drop, List.length_drop]
          congr 1; omega
        · rfl
      · have hv : validL (c :: l) = false := by rw [valid_cons (by simp), decide_eq_false h0]; rfl
        rw [hv]
        show unqL (c :: (l ++ rest)) = none
        apply unqL_bad hc.2.1 hc.2.2
        rcases Int.lt_or_le (runeL (c :: (l ++ rest))).1 0 with h1 | h1
        · omega
        · exfalso
          obtain ⟨a1, a2, _, _⟩ := runeL_inv (c :: (l ++ rest)) (by simp) h1
          have hww := runeL_width (c :: (l ++ rest)) (by simp)
          generalize (runeL (c :: (l ++ rest))).1 = r at *
          have hlen : (enc r).length = (runeL (c :: (l ++ rest))).2 := by rw [a2, List.length_take]; omega
          generalize (runeL (c :: (l ++ rest))).2 = k at *
          by_cases hk : k ≤ (c :: l).length
          · have e : c :: l = enc r ++ (c :: l).drop k := by
              have : (c :: (l ++ rest)).take k = (c :: l).take k := by rw [← List.cons_append, List.take_append_of_le_length hk]
              rw [a2, this, List.take_append_drop]
            have := runeL_enc a1 ((c :: l).drop k)
            rw [← e] at this
            rw [this] at h0
            exact h0 h1
          · rcases hr with hr | hr
            · subst hr
              simp only [List.append_nil] at hww hk
              omega
            · have hx := plainB_not hr
              have hb : bt (enc r ++ (c :: (l ++ rest)).drop k) (c :: l).length = (rest.getD 0 0).toNat := by
                rw [a2, List.take_append_drop, ← List.cons_append]
                have := bt_append_right (a := c :: l) (b := rest) 0
                rw [Nat.add_zero] at this
                rw [this]; rfl
              have h2 := (bt_enc_cont a1 ((c :: (l ++ rest)).drop k) (k := (c :: l).length) (by omega)).2 (by simp)
              rw [hb] at h2
              omega

/-- The digits of a byte below 32. -/
theorem hexF_esc {a : Nat} (ha : a < 256) (X : List UInt8) : fourL (48 :: 48 :: hexd (a / 16) :: hexd (a % 16) :: X) = some a := by
  have h1 := hexN_hexd ⟨a / 16, by omega⟩
  have h2 := hexN_hexd ⟨a % 16, by omega⟩
  have h0 : hexN (48 : UInt8).toNat = some 0 := by decide
  simp only at h1 h2
  simp only [fourL, hexF, h0, h1, h2]
  congr 1; omega
theorem enc_one {n : Nat} (h : n < 128) : enc (n : Int) = [UInt8.ofNat n] := by
  unfold enc encN
  simp only [Int.toNat_natCast, if_pos h]; rfl
/-- A byte that may not stand there itself, as it is quoted. -/
theorem unqL_escB {c : UInt8} (h : plainB c = false) (X : List UInt8) : unqL (escB c ++ X) = glue [c] (escB c).length (unqL X) := by
  have hc := plainB_not h
  have e92 : (92 : UInt8).toNat = 92 := rfl
  have step : ∀ (y z : UInt8), escL (y :: X) = some ([z], 1) → z = c → unqL ([92, y] ++ X) = glue [c] 2 (unqL X) := by
    intro y z hy hz
    have := unqL_esc e92 hy
    subst hz
    simpa using this
  have hofn : ∀ k : Nat, c.toNat = k → UInt8.ofNat k = c := by intro k hk; subst hk; simp
  unfold escB
  repeat' split
  · rename_i h1; exact step 34 34 rfl (hofn 34 h1)
  · rename_i h1; exact step 92 92 rfl (hofn 92 h1)
  · rename_i h1; exact step 98 8 rfl (hofn 8 h1)
  · rename_i h1; exact step 116 9 rfl (hofn 9 h1)
  · rename_i h1; exact step 110 10 rfl (hofn 10 h1)
  · rename_i h1; exact step 102 12 rfl (hofn 12 h1)
  · rename_i h1; exact step 114 13 rfl (hofn 13 h1)
  · have hlt : c.toNat < 32 := by omega
    have he : escL (117 :: 48 :: 48 :: hexd (c.toNat / 16) :: hexd (c.toNat % 16) :: X) = some ([c], 5) := by
      simp only [escL, hexF_esc c.toNat_lt X]
      rw [if_pos (by rfl), if_pos (by omega), enc_one (by omega), hofn _ rfl]
    have := unqL_esc e92 he
    simpa using this
/-- A code point's bytes: one that may not stand there itself, or all that do. -/
theorem enc_cases {r : Int} (h : okR r = true) : (∃ c, enc r = [c] ∧ plainB c = false) ∨ (∃ c l, enc r = c :: l ∧ 32 ≤ r ∧ plainB c = true ∧ ∀ x ∈ l, plainB x = true) := by
  cases he : enc r with
  | nil => exact absurd he (enc_ne r)
  | cons c l =>
    rcases enc_head h he with ⟨h1, h2, h3⟩ | ⟨h1, h2, h3⟩
    · subst h3
      cases hp : plainB c
      · left; exact ⟨c, rfl, hp⟩
      · right
        have := plainB_iff.1 hp
        exact ⟨c, [], rfl, by omega, hp, fun x hx => by simp at hx⟩
    · right
      refine ⟨c, l, rfl, by omega, plainB_iff.2 (by omega), fun x hx => plainB_iff.2 ?_⟩
      have := h3 x hx; omega
theorem bodyL_enc_esc {r : Int} {c : UInt8} (he : enc r = [c]) (hp : plainB c = false) : bodyL (enc r) = escB c := by
  rw [he]; simp [bodyL, qb, hp]
theorem bodyL_enc_plain {r : Int} {c : UInt8} {l : List UInt8} (he : enc r = c :: l) (hp : plainB c = true) (hl : ∀ x ∈ l, plainB x = true) : bodyL (enc r) = enc r := by
  apply bodyL_plain
  intro x hx
  rw [he] at hx
  rcases List.mem_cons.1 hx with rfl | hx
  · exact hp
  · exact hl x hx
/-- One code point, quoted. -/
theorem unqL_encq {r : Int} (h : okR r = true) (X : List UInt8) : unqL (bodyL (enc r) ++ X) = glue (enc r) (bodyL (enc r)).length (unqL X) := by
  rcases enc_cases h with ⟨c, he, hp⟩ | ⟨c, l, he, h32, hp, hl⟩
  · rw [bodyL_enc_esc he hp, he]
    exact unqL_escB hp X
  · rw [bodyL_enc_plain he hp hl]
    have hc := plainB_iff.1 hp
    have hru := runeL_enc h X
    rw [he] at hru ⊢
    have := unqL_rune (c := c) hc.2.1 hc.2.2 (l := l ++ X) (by rw [← List.cons_append, hru]; show ¬ r < 32; omega)
    rw [← List.cons_append, hru] at this
    simp only at this
    rw [this, List.take_left, List.drop_left]
theorem unqL_join : ∀ (rs : List Int), okAll rs = true → ∀ X, unqL (bodyL (joinL rs) ++ X) = glue (joinL rs) (bodyL (joinL rs)).length (unqL X) := by
  intro rs
  induction rs with
  | nil => intro _ X; simp [joinL, bodyL, glue_nil]
  | cons r rs ih =>
    intro h X
    simp only [okAll, List.all_cons, Bool.and_eq_true] at h
    rw [joinL_cons, bodyL_append, List.append_assoc, unqL_encq h.1, ih h.2, glue_glue, List.length_append]
/-- What is quoted is unquoted as it was. -/
theorem unqL_quoted {l : List UInt8} (h : validL l = true) (more : List UInt8) : unqL (bodyL l ++ 34 :: more) = some (l, (bodyL l).length + 1) := by
  obtain ⟨h1, h2⟩ := join_runes h
  have := unqL_join (runesL l) h1 (34 :: more)
  rw [h2, unqL_end rfl] at this
  rw [this]; simp [glue]

/-- A byte's escape, cut. -/
theorem unqL_escB_cut {c : UInt8} {k : Nat} (hk : k < (escB c).length) : unqL ((escB c).take k) = none := by
  cases k with
  | zero => rfl
  | succ k =>
    have e92 : (92 : UInt8).toNat = 92 := rfl
    have two : ∀ y : UInt8, k + 1 < ([92, y] : List UInt8).length → unqL (([92, y] : List UInt8).take (k + 1)) = none := by
      intro y hk
      have : k = 0 := by simp at hk; omega
      subst this
      exact unqL_noesc e92 rfl
    unfold escB at hk ⊢
    repeat' split at hk
    all_goals (simp only [*, if_true, if_false]; try (exact two _ hk))
    rw [List.take_succ_cons]
    apply unqL_noesc e92
    cases k with
    | zero => rfl
    | succ j =>
      rw [List.take_succ_cons]
      have : fourL (([48, 48, hexd (c.toNat / 16), hexd (c.toNat % 16)] : List UInt8).take j) = none := by
        rw [fourL]; apply hexF_short; rw [List.length_take]; simp at hk ⊢; omega
      simp only [escL, this]
      rfl
theorem unqL_encq_cut {r : Int} (h : okR r = true) {k : Nat} (hk : k < (bodyL (enc r)).length) : unqL ((bodyL (enc r)).take k) = none := by
  rcases enc_cases h with ⟨c, he, hp⟩ | ⟨c, l, he, h32, hp, hl⟩
  · rw [bodyL_enc_esc he hp] at hk ⊢
    exact unqL_escB_cut hk
  · rw [bodyL_enc_plain he hp hl] at hk ⊢
    cases k with
    | zero => rfl
    | succ k =>
      have hc := plainB_iff.1 hp
      have hcut := runeL_cut h (j := k + 1) (by omega) hk
      rw [he, List.take_succ_cons] at hcut ⊢
      exact unqL_bad hc.2.1 hc.2.2 (by rw [hcut]; decide)
/-- What is quoted, cut. -/
theorem unqL_join_cut : ∀ (rs : List Int), okAll rs = true → ∀ k, k ≤ (bodyL (joinL rs)).length → unqL ((bodyL (joinL rs)).take k) = none := by
  intro rs
  induction rs with
  | nil => intro _ k hk; simp [joinL, bodyL, unqL_nil]
  | cons r rs ih =>
    intro h k hk
    simp only [okAll, List.all_cons, Bool.and_eq_true] at h
    rw [joinL_cons, bodyL_append] at hk ⊢
    by_cases hlt : k < (bodyL (enc r)).length
    · rw [List.take_append_of_le_length (Nat.le_of_lt hlt)]
      exact unqL_encq_cut h.1 hlt
    · obtain ⟨j, rfl⟩ : ∃ j, k = (bodyL (enc r)).length + j := ⟨k - (bodyL (enc r)).length, by omega⟩
      rw [List.take_length_add_append, unqL_encq h.1, ih h.2 j (by rw [List.length_append] at hk; omega)]
      rfl
theorem unqL_cut {l : List UInt8} (h : validL l = true) {k : Nat} (hk : k ≤ (bodyL l).length) : unqL ((bodyL l ++ [34]).take k) = none := by
  obtain ⟨h1, h2⟩ := join_runes h
  rw [List.take_append_of_le_length hk]
  have := unqL_join_cut (runesL l) h1 k (by rw [h2]; exact hk)
  rw [h2] at this; exact this

/-- A digit of sixteen, of small or great letters. -/
def dg (great : Bool) (n : Nat) : UInt8 := if n < 10 then UInt8.ofNat (48 + n) else UInt8.ofNat ((if great then 55 else 87) + n)
theorem hexN_dg : ∀ (g : Bool) (n : Fin 16), hexN (dg g n.val).toNat = some n.val := by decide
/-- Four digits behind a sign and u. -/
def hexL (great : Bool) (r : Nat) : List UInt8 := [92, 117, dg great (r / 4096 % 16), dg great (r / 256 % 16), dg great (r / 16 % 16), dg great (r % 16)]
theorem fourL_dg (g : Bool) {r : Nat} (hr : r < 65536) (X : List UInt8) : fourL (dg g (r / 4096 % 16) :: dg g (r / 256 % 16) :: dg g (r / 16 % 16) :: dg g (r % 16) :: X) = some r := by
  have h1 := hexN_dg g ⟨r / 4096 % 16, by omega⟩
  have h2 := hexN_dg g ⟨r / 256 % 16, by omega⟩
  have h3 := hexN_dg g ⟨r / 16 % 16, by omega⟩
  have h4 := hexN_dg g ⟨r % 16, by omega⟩
  simp only at h1 h2 h3 h4
  simp only [fourL, hexF, h1, h2, h3, h4]
  congr 1; omega
theorem unqL_hex (g : Bool) {r : Nat} (hr : r < 65536) (hs : r < 55296 ∨ 57343 < r) : unqL (hexL g r ++ [34]) = some (enc (r : Int), 7) := by
  have he : escL ([117, dg g (r / 4096 % 16), dg g (r / 256 % 16), dg g (r / 16 % 16), dg g (r % 16), 34]) = some (enc (r : Int), 5) := by
    simp only [escL, fourL_dg g hr]
    rw [if_pos (by rfl), if_pos hs]
  have := unqL_esc (c := 92) rfl he
  rw [show (List.drop 5 [117, dg g (r / 4096 % 16), dg g (r / 256 % 16), dg g (r / 16 % 16), dg g (r % 16), 34] : List UInt8) = [34] from rfl, unqL_end (c := 34) rfl []] at this
  simpa [hexL, glue] using this
theorem unqL_half (g : Bool) {r : Nat} (hs : 55296 ≤ r ∧ r ≤ 57343) : unqL (hexL g r ++ [34]) = none := by
  have hn : ¬ (r < 55296 ∨ 57343 < r) := by omega
  have he : escL ([117, dg g (r / 4096 % 16), dg g (r / 256 % 16), dg g (r / 16 % 16), dg g (r % 16), 34]) = none := by
    simp only [escL, fourL_dg g (show r < 65536 by omega)]
    rw [if_pos (by rfl), if_neg hn]
    split
    · rfl
    · have : lowL (List.drop 4 [dg g (r / 4096 % 16), dg g (r / 256 % 16), dg g (r / 16 % 16), dg g (r % 16), 34]) = none := by
        unfold lowL; rw [if_neg]
        intro h
        have h1 : bt ([34] : List UInt8) 0 = 92 := h.1
        revert h1; decide
      rw [this]
  exact unqL_noesc (c := 92) rfl he
theorem unqL_pair (g : Bool) {c : Nat} (hc : 65536 ≤ c ∧ c ≤ 1114111) : unqL (hexL g (55296 + (c - 65536) / 1024) ++ hexL g (56320 + (c - 65536) % 1024) ++ [34]) = some (enc (c : Int), 13) := by
  generalize hh : 55296 + (c - 65536) / 1024 = a
  generalize hl : 56320 + (c - 65536) % 1024 = b
  have hlow : lowL (hexL g b ++ [34]) = some b := by
    unfold lowL
    rw [if_pos ⟨rfl, rfl⟩]
    have : fourL ((hexL g b ++ [34]).drop 2) = some b := fourL_dg g (by omega) [34]
    rw [this]
    simp only
    rw [if_pos (by omega)]
  have he : escL (117 :: dg g (a / 4096 % 16) :: dg g (a / 256 % 16) :: dg g (a / 16 % 16) :: dg g (a % 16) :: (hexL g b ++ [34])) = some (enc (c : Int), 11) := by
    simp only [escL, fourL_dg g (show a < 65536 by omega)]
    rw [if_pos (by rfl), if_neg (by omega), if_neg (by omega)]
    have : lowL (List.drop 4 (dg g (a / 4096 % 16) :: dg g (a / 256 % 16) :: dg g (a / 16 % 16) :: dg g (a % 16) :: (hexL g b ++ [34]))) = some b := hlow
    rw [this]
    simp only
    have : 65536 + (a - 55296) * 1024 + (b - 56320) = c := by omega
    rw [this]
  have := unqL_esc (c := 92) rfl he
  rw [show (List.drop 11 (117 :: dg g (a / 4096 % 16) :: dg g (a / 256 % 16) :: dg g (a / 16 % 16) :: dg g (a % 16) :: (hexL g b ++ [34])) : List UInt8) = [34] from rfl, unqL_end (c := 34) rfl []] at this
  simpa [hexL, glue] using this
end Go.Proofs.YtnoclbeamcmhhaaDoor
