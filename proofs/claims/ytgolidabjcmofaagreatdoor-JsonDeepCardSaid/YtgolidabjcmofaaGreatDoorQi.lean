/- Texts of the claim. -/
import Derived.Test.YtgolidabjcmofaaGreatDoorQd
import Derived.Lib.Small
import Derived.OwnWalk
import Derived.Laws.AppendOwn
import Derived.Laws.MakeOwn
namespace Go.Proofs.YtgolidabjcmofaaGreatDoor
set_option linter.unusedVariables false
set_option linter.unusedSimpArgs false
def plainB (c : UInt8) : Bool := decide (32 ≤ c.toNat) && (decide (c.toNat ≠ 34) && decide (c.toNat ≠ 92))
theorem plainB_iff {c : UInt8} : plainB c = true ↔ 32 ≤ c.toNat ∧ c.toNat ≠ 34 ∧ c.toNat ≠ 92 := by simp [plainB]
theorem plainB_not {c : UInt8} (h : plainB c = false) : c.toNat < 32 ∨ c.toNat = 34 ∨ c.toNat = 92 := by
  have : ¬ (32 ≤ c.toNat ∧ c.toNat ≠ 34 ∧ c.toNat ≠ 92) := fun e => by rw [plainB_iff.2 e] at h; cases h
  omega
def hexd (n : Nat) : UInt8 := if n < 10 then UInt8.ofNat (48 + n) else UInt8.ofNat (87 + n)
def escB (c : UInt8) : List UInt8 :=
  if c.toNat = 34 then [92, 34] else if c.toNat = 92 then [92, 92] else if c.toNat = 8 then [92, 98] else if c.toNat = 9 then [92, 116]
  else if c.toNat = 10 then [92, 110] else if c.toNat = 12 then [92, 102] else if c.toNat = 13 then [92, 114]
  else [92, 117, 48, 48, hexd (c.toNat / 16), hexd (c.toNat % 16)]
def qb (c : UInt8) : List UInt8 := if plainB c then [c] else escB c
def bodyL (l : List UInt8) : List UInt8 := l.flatMap qb
theorem bodyL_cons (c : UInt8) (l : List UInt8) : bodyL (c :: l) = qb c ++ bodyL l := rfl
theorem bodyL_append (a b : List UInt8) : bodyL (a ++ b) = bodyL a ++ bodyL b := by simp [bodyL]
theorem bodyL_plain {l : List UInt8} (h : ∀ c ∈ l, plainB c = true) : bodyL l = l := by
  induction l with
  | nil => rfl
  | cons c l ih => rw [bodyL_cons, ih (fun x hx => h x (by simp [hx]))]; simp [qb, h c (by simp)]
theorem escB_len (c : UInt8) : 2 ≤ (escB c).length ∧ (escB c).length ≤ 6 := by
  unfold escB; repeat' split
  all_goals simp
theorem qb_len (c : UInt8) : 1 ≤ (qb c).length ∧ (qb c).length ≤ 6 := by
  unfold qb; split
  · simp
  · have := escB_len c; omega
theorem bodyL_len (l : List UInt8) : l.length ≤ (bodyL l).length ∧ (bodyL l).length ≤ 6 * l.length := by
  induction l with
  | nil => simp [bodyL]
  | cons c l ih => have := qb_len c; rw [bodyL_cons, List.length_append, List.length_cons]; omega
def quoteL (l : List UInt8) : List UInt8 := if validL l then 34 :: (bodyL l ++ [34]) else []
theorem quoteL_len (l : List UInt8) : (quoteL l).length ≤ 6 * l.length + 2 := by
  unfold quoteL; split
  · have := bodyL_len l; simp; omega
  · simp
def plainN (l : List UInt8) : Nat := (l.takeWhile plainB).length
theorem plainN_le (l : List UInt8) : plainN l ≤ l.length := by
  unfold plainN; exact (List.takeWhile_prefix plainB).length_le
theorem plainN_take (l : List UInt8) : l.take (plainN l) = l.takeWhile plainB := by
  unfold plainN
  have e : l.takeWhile plainB ++ l.dropWhile plainB = l := List.takeWhile_append_dropWhile
  generalize l.takeWhile plainB = a at *
  generalize l.dropWhile plainB = b at *
  subst e; exact List.take_left
theorem plainN_all (l : List UInt8) : ∀ c ∈ l.take (plainN l), plainB c = true := by
  rw [plainN_take]
  intro c hc
  have := List.all_takeWhile (p := plainB) (l := l)
  rw [List.all_eq_true] at this
  exact this c hc
theorem plainN_stop {l : List UInt8} (h : plainN l < l.length) : plainB (l.getD (plainN l) 0) = false := by
  induction l with
  | nil => simp [plainN] at h
  | cons c l ih =>
    unfold plainN at h ⊢
    rw [List.takeWhile_cons] at h ⊢
    by_cases hc : plainB c = true
    · rw [if_pos hc] at h ⊢
      simp only [List.length_cons] at h ⊢
      have := ih (by unfold plainN; omega)
      unfold plainN at this
      simpa using this
    · rw [if_neg hc]
      simpa using hc
theorem plainN_lt {l : List UInt8} {k : Nat} (h : k < plainN l) : plainB (l.getD k 0) = true := by
  have h1 := plainN_le l
  have h2 := plainN_all l (l.getD k 0) (by
    rw [List.mem_take_iff_getElem]
    exact ⟨k, by omega, by simp [List.getD, show k < l.length by omega]⟩)
  exact h2
def hexN (c : Nat) : Option Nat :=
  if 48 ≤ c ∧ c ≤ 57 then some (c - 48) else if 97 ≤ c ∧ c ≤ 102 then some (c - 87) else if 65 ≤ c ∧ c ≤ 70 then some (c - 55) else none
theorem hexN_lt {c n : Nat} (h : hexN c = some n) : n < 16 := by
  unfold hexN at h
  repeat' split at h
  all_goals first | (cases h; omega) | (simp at h; omega) | cases h
def hexF : Nat → Nat → List UInt8 → Option Nat
  | 0, v, _ => some v
  | k + 1, v, l => match l with
    | [] => none
    | c :: l => match hexN c.toNat with
      | none => none
      | some n => hexF k (v * 16 + n) l
def fourL (l : List UInt8) : Option Nat := hexF 4 0 l
theorem hexF_lt : ∀ (k v : Nat) (l : List UInt8) (r : Nat), hexF k v l = some r → r < (v + 1) * 16 ^ k := by
  intro k
  induction k with
  | zero => intro v l r h; simp [hexF] at h; subst h; simp
  | succ k ih =>
    intro v l r h
    cases l with
    | nil => simp [hexF] at h
    | cons c l =>
      simp only [hexF] at h
      cases hn : hexN c.toNat with
      | none => rw [hn] at h; cases h
      | some n =>
        rw [hn] at h
        have h1 := ih _ _ _ h
        have h2 := hexN_lt hn
        rw [Nat.pow_succ]
        have h3 : (v * 16 + n + 1) * 16 ^ k ≤ (v + 1) * (16 ^ k * 16) := by
          rw [Nat.mul_comm (16 ^ k) 16, ← Nat.mul_assoc]
          exact Nat.mul_le_mul_right _ (by omega)
        omega
theorem fourL_lt {l : List UInt8} {r : Nat} (h : fourL l = some r) : r < 65536 := by
  have := hexF_lt 4 0 l r h; simpa using this
theorem hexF_short : ∀ (k v : Nat) (l : List UInt8), l.length < k → hexF k v l = none := by
  intro k
  induction k with
  | zero => intro v l h; omega
  | succ k ih =>
    intro v l h
    cases l with
    | nil => rfl
    | cons c l =>
      simp only [hexF]
      cases hexN c.toNat with
      | none => rfl
      | some n => exact ih _ _ (by simp at h; omega)
theorem fourL_len {l : List UInt8} {r : Nat} (h : fourL l = some r) : 4 ≤ l.length := by
  rcases Nat.lt_or_ge l.length 4 with h1 | h1
  · rw [fourL, hexF_short 4 0 l h1] at h; cases h
  · exact h1
def simpleE (c : Nat) : Option UInt8 :=
  if c = 34 then some 34 else if c = 92 then some 92 else if c = 47 then some 47 else if c = 98 then some 8 else if c = 102 then some 12
  else if c = 110 then some 10 else if c = 114 then some 13 else if c = 116 then some 9 else none
def lowL (l : List UInt8) : Option Nat :=
  if bt l 0 = 92 ∧ bt l 1 = 117 then
    match fourL (l.drop 2) with
    | none => none
    | some r => if 56320 ≤ r ∧ r ≤ 57343 then some r else none
  else none
def escL (l : List UInt8) : Option (List UInt8 × Nat) :=
  match l with
  | [] => none
  | c :: l => if c.toNat = 117 then
      match fourL l with
      | none => none
      | some r =>
        if r < 55296 ∨ 57343 < r then some (enc (r : Int), 5)
        else if 56320 ≤ r then none
        else match lowL (l.drop 4) with
          | none => none
          | some low => some (enc ((65536 + (r - 55296) * 1024 + (low - 56320) : Nat) : Int), 11)
    else match simpleE c.toNat with
      | none => none
      | some x => some ([x], 1)
theorem lowL_len {l : List UInt8} {r : Nat} (h : lowL l = some r) : 6 ≤ l.length ∧ 56320 ≤ r ∧ r ≤ 57343 := by
  unfold lowL at h
  split at h
  · split at h
    · cases h
    · rename_i r' h1
      have := fourL_len h1
      rw [List.length_drop] at this
      split at h
      · cases h; omega
      · cases h
  · cases h
theorem escL_len {l x : List UInt8} {n : Nat} (h : escL l = some (x, n)) : 1 ≤ n ∧ n ≤ l.length := by
  unfold escL at h
  split at h
  · cases h
  · rename_i c l
    split at h
    · split at h
      · cases h
      · rename_i r hr
        have h4 := fourL_len hr
        split at h
        · cases h; simp; omega
        · split at h
          · cases h
          · split at h
            · cases h
            · rename_i low hl
              have := lowL_len hl
              rw [List.length_drop] at this
              simp only [Option.some.injEq, Prod.mk.injEq] at h
              obtain ⟨_, rfl⟩ := h
              simp only [List.length_cons]; omega
    · split at h
      · cases h
      · cases h; simp
def glue (x : List UInt8) (n : Nat) (r : Option (List UInt8 × Nat)) : Option (List UInt8 × Nat) := r.map fun p => (x ++ p.1, n + p.2)
theorem glue_glue (x y : List UInt8) (n m : Nat) (r : Option (List UInt8 × Nat)) : glue x n (glue y m r) = glue (x ++ y) (n + m) r := by
  cases r with
  | none => rfl
  | some p => simp [glue, List.append_assoc, Nat.add_assoc]
theorem glue_nil (r : Option (List UInt8 × Nat)) : glue [] 0 r = r := by
  cases r with
  | none => rfl
  | some p => simp [glue]
def unqF : Nat → List UInt8 → Option (List UInt8 × Nat)
  | 0, _ => none
  | f + 1, l => match l with
    | [] => none
    | c :: l' =>
      if c.toNat = 34 then some ([], 1)
      else if c.toNat = 92 then
        match escL l' with
        | none => none
        | some (x, n) => glue x (1 + n) (unqF f (l'.drop n))
      else if (runeL (c :: l')).1 < 32 then none
      else glue ((c :: l').take (runeL (c :: l')).2) (runeL (c :: l')).2 (unqF f ((c :: l').drop (runeL (c :: l')).2))
def unqL (l : List UInt8) : Option (List UInt8 × Nat) := unqF l.length l
theorem unqF_nil (f : Nat) : unqF f [] = none := by cases f <;> rfl
theorem unqF_eq : ∀ (f g : Nat) (l : List UInt8), l.length ≤ f → l.length ≤ g → unqF f l = unqF g l := by
  intro f
  induction f with
  | zero => intro g l h _; have : l = [] := List.eq_nil_of_length_eq_zero (by omega)
            rw [this, unqF_nil, unqF_nil]
  | succ f ih =>
    intro g l h k
    cases g with
    | zero => have : l = [] := List.eq_nil_of_length_eq_zero (by omega)
              rw [this, unqF_nil, unqF_nil]
    | succ g =>
      cases l with
      | nil => rfl
      | cons c l' =>
        have hw := runeL_width (c :: l') (by simp)
        simp only [List.length_cons] at h k hw
        simp only [unqF]
        split
        · rfl
        · split
          · cases he : escL l' with
            | none => rfl
            | some p =>
              obtain ⟨x, n⟩ := p
              have := escL_len he
              simp only
              rw [ih g (l'.drop n) (by rw [List.length_drop]; omega) (by rw [List.length_drop]; omega)]
          · split
            · rfl
            · rw [ih g _ (by rw [List.length_drop, List.length_cons]; omega) (by rw [List.length_drop, List.length_cons]; omega)]
theorem unqL_end {c : UInt8} (h : c.toNat = 34) (l : List UInt8) : unqL (c :: l) = some ([], 1) := by
  unfold unqL; simp only [List.length_cons, unqF, if_pos h]
theorem unqL_esc {c : UInt8} (h : c.toNat = 92) {l x : List UInt8} {n : Nat} (he : escL l = some (x, n)) : unqL (c :: l) = glue x (1 + n) (unqL (l.drop n)) := by
  have hl := escL_len he
  unfold unqL; simp only [List.length_cons, unqF, if_neg (show ¬ c.toNat = 34 by omega), if_pos h, he]
  rw [unqF_eq _ (l.drop n).length _ (by rw [List.length_drop]; omega) (Nat.le_refl _)]
theorem unqL_noesc {c : UInt8} (h : c.toNat = 92) {l : List UInt8} (he : escL l = none) : unqL (c :: l) = none := by
  unfold unqL; simp only [List.length_cons, unqF, if_neg (show ¬ c.toNat = 34 by omega), if_pos h, he]
theorem unqL_bad {c : UInt8} (h1 : c.toNat ≠ 34) (h2 : c.toNat ≠ 92) {l : List UInt8} (hr : (runeL (c :: l)).1 < 32) : unqL (c :: l) = none := by
  unfold unqL; simp only [List.length_cons, unqF, if_neg h1, if_neg h2, if_pos hr]
theorem unqL_rune {c : UInt8} (h1 : c.toNat ≠ 34) (h2 : c.toNat ≠ 92) {l : List UInt8} (hr : ¬ (runeL (c :: l)).1 < 32) :
    unqL (c :: l) = glue ((c :: l).take (runeL (c :: l)).2) (runeL (c :: l)).2 (unqL ((c :: l).drop (runeL (c :: l)).2)) := by
  have hw := runeL_width (c :: l) (by simp)
  unfold unqL; simp only [List.length_cons, unqF, if_neg h1, if_neg h2, if_neg hr]
  rw [unqF_eq _ ((c :: l).drop (runeL (c :: l)).2).length _ (by rw [List.length_drop, List.length_cons]; omega) (Nat.le_refl _)]
theorem runeL_ascii {c : UInt8} (h : c.toNat < 128) (l : List UInt8) : runeL (c :: l) = ((c.toNat : Int), 1) := by
  have hok : okR (c.toNat : Int) = true := okR_iff.2 (by omega)
  have he : enc (c.toNat : Int) = [c] := by
    unfold enc encN
    simp only [Int.toNat_natCast, if_pos h]
    simp
  have := runeL_enc hok l
  rw [he] at this
  exact this
theorem unqL_low {c : UInt8} (h : c.toNat < 32) (l : List UInt8) : unqL (c :: l) = none :=
  unqL_bad (by omega) (by omega) (by rw [runeL_ascii (by omega)]; show (c.toNat : Int) < 32; omega)
theorem enc_head {r : Int} (h : okR r = true) {c : UInt8} {l : List UInt8} (he : enc r = c :: l) : (c.toNat < 128 ∧ r = c.toNat ∧ l = []) ∨ (128 ≤ r ∧ 128 ≤ c.toNat ∧ ∀ x ∈ l, 128 ≤ x.toNat) := by
  have key : ∀ y : Nat, 128 ≤ y → y < 256 → 128 ≤ (UInt8.ofNat y).toNat := by intro y h1 h2; rw [UInt8.toNat_ofNat']; omega
  obtain ⟨n, rfl, hn⟩ := okR_nat h
  unfold enc encN at he
  rw [Int.toNat_natCast] at he
  split at he
  · rename_i h1
    left
    simp only [List.map_cons, List.map_nil, List.cons.injEq] at he
    obtain ⟨rfl, rfl⟩ := he
    have e : (UInt8.ofNat n).toNat = n := by rw [UInt8.toNat_ofNat']; omega
    rw [e]; exact ⟨h1, rfl, rfl⟩
  · right
    repeat' split at he
    all_goals
      simp only [List.map_cons, List.map_nil, List.cons.injEq] at he
      obtain ⟨rfl, rfl⟩ := he
      refine ⟨by omega, key _ (by omega) (by omega), ?_⟩
      intro x hx
      simp only [List.mem_cons, List.not_mem_nil, or_false] at hx
      first
        | (rcases hx with rfl | rfl | rfl <;> exact key _ (by omega) (by omega))
        | (rcases hx with rfl | rfl <;> exact key _ (by omega) (by omega))
        | (subst hx; exact key _ (by omega) (by omega))
theorem enc_plain {r : Int} (h : okR r = true) (hp : ∀ c ∈ enc r, plainB c = true) : 32 ≤ r := by
  cases he : enc r with
  | nil => exact absurd he (enc_ne r)
  | cons c l =>
    rcases enc_head h he with ⟨h1, h2, h3⟩ | ⟨h1, _⟩
    · have := plainB_iff.1 (hp c (by rw [he]; simp)); omega
    · omega
end Go.Proofs.YtgolidabjcmofaaGreatDoor
namespace Go.Proofs.YtgolidabjcmofaaGreatDoor
set_option linter.unusedVariables false
set_option linter.unusedSimpArgs false
theorem unqL_run : ∀ (m : Nat) (run rest : List UInt8), run.length ≤ m → (∀ c ∈ run, plainB c = true) → (rest = [] ∨ plainB (rest.getD 0 0) = false) →
    unqL (run ++ rest) = if validL run then glue run run.length (unqL rest) else none := by
  intro m
  induction m with
  | zero =>
    intro run rest h _ _
    have : run = [] := List.eq_nil_of_length_eq_zero (by omega)
    subst this
    rw [if_pos (by rfl)]; simp [glue_nil]
  | succ m ih =>
    intro run rest h hp hr
    cases run with
    | nil => rw [if_pos (by rfl)]; simp [glue_nil]
    | cons c l =>
      have hc := plainB_iff.1 (hp c (by simp))
      have hw := runeL_width (c :: l) (by simp)
      by_cases h0 : 0 ≤ (runeL (c :: l)).1
      · obtain ⟨h1, h2, _, _⟩ := runeL_inv (c :: l) (by simp) h0
        generalize hR : (runeL (c :: l)).1 = r at *
        have hlen : (enc r).length = (runeL (c :: l)).2 := by rw [h2, List.length_take]; omega
        generalize (runeL (c :: l)).2 = k at *
        have e : c :: l = enc r ++ (c :: l).drop k := by rw [h2, List.take_append_drop]
        have hr32 : 32 ≤ r := enc_plain h1 (fun x hx => hp x (by rw [h2] at hx; exact List.mem_of_mem_take hx))
        have hru : runeL (c :: (l ++ rest)) = (r, k) := by
          have := runeL_enc h1 ((c :: l).drop k ++ rest)
          rw [← List.append_assoc, ← e, hlen] at this; exact this
        have hv : validL (c :: l) = validL ((c :: l).drop k) := by
          rw [valid_cons (by simp), hR, decide_eq_true h0, Bool.true_and]
          have : runeL (c :: l) = (r, k) := by
            have := runeL_enc h1 ((c :: l).drop k)
            rw [← e, hlen] at this; exact this
          rw [this]
        have hu := unqL_rune (c := c) hc.2.1 hc.2.2 (l := l ++ rest) (by rw [hru]; show ¬ r < 32; omega)
        rw [hru] at hu
        simp only at hu
        have ht : (c :: (l ++ rest)).take k = (c :: l).take k := by
          rw [← List.cons_append, List.take_append_of_le_length (by omega)]
        have hd : (c :: (l ++ rest)).drop k = (c :: l).drop k ++ rest := by
          rw [← List.cons_append, List.drop_append_of_le_length (by omega)]
        rw [ht, hd] at hu
        rw [List.cons_append, hu, ih ((c :: l).drop k) rest (by rw [List.length_drop]; omega) (fun x hx => hp x (List.mem_of_mem_drop hx)) hr, hv]
        split
        · rw [glue_glue, List.take_append_drop, List.length_drop]
          congr 1; omega
        · rfl
      · have hv : validL (c :: l) = false := by rw [valid_cons (by simp), decide_eq_false h0]; rfl
        rw [hv]
        show unqL (c :: (l ++ rest)) = none
        apply unqL_bad hc.2.1 hc.2.2
        rcases Int.lt_or_le (runeL (c :: (l ++ rest))).1 0 with h1 | h1
        · omega
        · exfalso
          obtain ⟨a1, a2, _, _⟩ := runeL_inv (c :: (l ++ rest)) (by simp) h1
          have hww := runeL_width (c :: (l ++ rest)) (by simp)
          generalize (runeL (c :: (l ++ rest))).1 = r at *
          have hlen : (enc r).length = (runeL (c :: (l ++ rest))).2 := by rw [a2, List.length_take]; omega
          generalize (runeL (c :: (l ++ rest))).2 = k at *
          by_cases hk : k ≤ (c :: l).length
          · have e : c :: l = enc r ++ (c :: l).drop k := by
              have : (c :: (l ++ rest)).take k = (c :: l).take k := by rw [← List.cons_append, List.take_append_of_le_length hk]
              rw [a2, this, List.take_append_drop]
            have := runeL_enc a1 ((c :: l).drop k)
            rw [← e] at this
            rw [this] at h0
            exact h0 h1
          · rcases hr with hr | hr
            · subst hr
              simp only [List.append_nil] at hww hk
              omega
            · have hx := plainB_not hr
              have hb : bt (enc r ++ (c :: (l ++ rest)).drop k) (c :: l).length = (rest.getD 0 0).toNat := by
                rw [a2, List.take_append_drop, ← List.cons_append]
                have := bt_append_right (a := c :: l) (b := rest) 0
                rw [Nat.add_zero] at this
                rw [this]; rfl
              have h2 := (bt_enc_cont a1 ((c :: (l ++ rest)).drop k) (k := (c :: l).length) (by omega)).2 (by simp)
              rw [hb] at h2
              omega
end Go.Proofs.YtgolidabjcmofaaGreatDoor
namespace Go.Proofs.YtgolidabjcmofaaGreatDoor
open Go.RowKit Go.Shelf
set_option linter.unusedVariables false
set_option linter.unusedSimpArgs false
def putS (r : Int) : ByteArray := ⟨(if okR r then enc r else []).toArray⟩
theorem validRune_ok (r : Int) : Lib.validRune r = okR r := by
  rw [Bool.eq_iff_iff, okR_iff]; unfold Lib.validRune; rw [decide_eq_true_eq]; omega
theorem encode_enc {r : Int} (h : okR r = true) : Utf8.encode r = ⟨(enc r).toArray⟩ := by
  have hv : Utf8.valid r = true := h
  obtain ⟨n, rfl, hn⟩ := okR_nat h
  unfold Utf8.encode enc encN
  simp only [hv, if_true, Int.toNat_natCast]
  repeat' split
  all_goals simp
set_option maxHeartbeats 400000 in
theorem put_any (r : Int) (w : World) :
    Calls Tryz.prog 192 #[.int .i32 r] w fun e w' => e = .returned (.string (putS r)) ∧ w = w' := by
  have K := Lib.hid (Tryz.utf8_ValidRune r w)
  rw [validRune_ok] at K
  unfold putS
  cases hv : okR r
  · rw [hv] at K
    clear hv
    go_enter Tryz.func192, Tryz.ntmps192
    go_wp2_with fail
    refine K.out.mono ?_
    rintro x w' ⟨rfl, rfl⟩
    go_wp2
    go_ret
    exact ⟨rfl, rfl⟩
  · have he := Lib.hid (encode_enc hv)
    rw [hv] at K
    clear hv
    go_enter Tryz.func192, Tryz.ntmps192
    go_wp2_with fail
    refine K.out.mono ?_
    rintro x w' ⟨rfl, rfl⟩
    go_wp2
    go_ret
    rw [he.out]
    exact ⟨rfl, rfl⟩
def rv (l : List Int) : List Value := l.map (Value.int .i32)
def RR (s : ByteArray) (B IT : Nat) (w : World) (k : Nat) (v : Value) (wr : World) : Prop :=
  ∃ pos acc, s.size - pos ≤ k ∧ acc ++ runesL (tailL s pos) = runesL s.data.toList ∧ acc.length ≤ pos ∧ pos ≤ s.size ∧ wr.ownsRow B 21 1 v acc.length (rv acc) ∧ wr.heap[IT]? = some (.stringIter s pos) ∧ Below B w wr
theorem iter_grown {w w' : World} {B : Nat} {e : TypeId} {v : Value} {n : Nat} {xs : List Value} {IT : Nat} {s : ByteArray} {p : Nat} (hi : w.heap[IT]? = some (.stringIter s p)) (h : w.ownsRow B e 1 v n xs) (hg : w.grownBy w' v.ownBlock) : w'.heap[IT]? = some (.stringIter s p) := by
  rw [hg.block IT (Array.getElem?_eq_some_iff.1 hi).1]; exact hi
  intro e
  rcases h.2 with ⟨rfl, _⟩ | ⟨g, cap, cur, rfl, hB, hg, rest⟩
  · simp [Value.ownBlock] at e
  · simp [Value.ownBlock] at e; subst e; rw [hg] at hi; cases hi
theorem iter_alloc {w : World} {IT : Nat} {s : ByteArray} {p : Nat} (hi : w.heap[IT]? = some (.stringIter s p)) (o : Obj) : (w.alloc o).heap[IT]? = some (.stringIter s p) := by
  rw [Lib.alloc_old w o IT (Array.getElem?_eq_some_iff.1 hi).1]; exact hi
theorem RR.step {s : ByteArray} {B IT : Nat} {w wr w' : World} {k pos : Nat} {acc : List Int} {v v' : Value} {o : Obj} (hp : pos < s.size) (hk : s.size - pos ≤ k + 1) (ha : acc ++ runesL (tailL s pos) = runesL s.data.toList) (hl : acc.length ≤ pos)
    (ho : wr.ownsRow B 21 1 v acc.length (rv acc)) (hi : wr.heap[IT]? = some (.stringIter s (pos + (runeL (tailL s pos)).2))) (hb : Below B w wr) (hB : B ≤ wr.heap.size)
    (h1 : w'.ownsRow B 21 1 v' (acc.length + 1) (rv acc ++ [.int .i32 (runeL (tailL s pos)).1])) (h2 : (wr.alloc o).grownBy w' v.ownBlock) : RR s B IT w k v' w' := by
  have hw := runeL_width (tailL s pos) (tailL_ne hp)
  rw [tailL_length] at hw
  refine ⟨pos + (runeL (tailL s pos)).2, acc ++ [(runeL (tailL s pos)).1], by omega, ?_, by simp; omega, by omega, ?_, ?_, ?_⟩
  · rw [← ha, runesL_cons (tailL_ne hp), tailL_drop]; simp
  · simpa [rv] using h1
  · exact iter_grown (iter_alloc hi o) (ho.alloc o) h2
  · exact (hb.alloc hB o).grown h2 (by simp; omega) (fun g hg => (ho.lt g hg).1)
end Go.Proofs.YtgolidabjcmofaaGreatDoor
