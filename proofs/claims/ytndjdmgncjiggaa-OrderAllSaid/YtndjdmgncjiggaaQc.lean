/- Texts of UTF-8 by themselves, as lists of bytes: what a code point's bytes are, what is decoded of bytes, and that both undo one another. No program. -/
import Derived.Lib.DecodeN
import Derived.Lib.RuneBytes
import Derived.Lib.RuneCount
import Derived.Lib.Hide
import Derived.Test.YtndjdmgncjiggaaShelf
import Derived.Test.YtndjdmgncjiggaaRows
import Derived.Below
import Derived.WalkKit
import Derived.WalkMore
import Derived.WalkSpells
import Derived.WalkLawsBesides
import Derived.Deep.QuietTactic
import Derived.BigQuiet
import Derived.Lib.Strings
import Derived.Deep.LoopGhost
import Derived.Lib.OthersKept
namespace Go.Proofs.Ytndjdmgncjiggaa
set_option linter.unusedVariables false
set_option linter.unusedSimpArgs false

/-- The number of a byte; 0 beyond the end. -/
def bt (l : List UInt8) (k : Nat) : Nat := (l.getD k 0).toNat
theorem bt_lt (l : List UInt8) (k : Nat) : bt l k < 256 := (l.getD k 0).toNat_lt
theorem bt_cons_zero (x : UInt8) (l : List UInt8) : bt (x :: l) 0 = x.toNat := rfl
theorem bt_cons_succ (x : UInt8) (l : List UInt8) (k : Nat) : bt (x :: l) (k + 1) = bt l k := rfl
theorem bt_drop (l : List UInt8) (i k : Nat) : bt (l.drop i) k = bt l (i + k) := by
  simp [bt, List.getD, List.getElem?_drop]
theorem bt_append_left {a b : List UInt8} {k : Nat} (h : k < a.length) : bt (a ++ b) k = bt a k := by
  simp [bt, List.getD, List.getElem?_append_left h]
theorem bt_append_right {a b : List UInt8} (k : Nat) : bt (a ++ b) (a.length + k) = bt b k := by
  simp [bt, List.getD, List.getElem?_append_right]

/-- What the model decodes at the head of these bytes. -/
def decL (l : List UInt8) : Nat × Nat := Lib.decodeN l.length (bt l 0) (bt l 1) (bt l 2) (bt l 3)
/-- Chapter 4's Rune at the head of these bytes: -1 and 1 where none begins. -/
def runeL (l : List UInt8) : Int × Nat := if decL l = (65533, 1) then (-1, 1) else (((decL l).1 : Int), (decL l).2)

theorem get!_list (s : ByteArray) (k : Nat) : s.get! k = s.data.toList.getD k 0 := by
  cases s with
  | mk d =>
    by_cases h : k < d.size
    · simp [ByteArray.get!, List.getD, h, getElem!_pos]
    · simp [ByteArray.get!, List.getD, h, getElem!_neg]; rfl
theorem decode_list (s : ByteArray) (i : Nat) : Utf8.decode s i = decL (s.data.toList.drop i) := by
  have e : ∀ k, (s.get! (i + k)).toNat = bt (s.data.toList.drop i) k := fun k => by rw [bt_drop]; simp [bt, get!_list]
  have e0 := e 0
  rw [Nat.add_zero] at e0
  rw [Lib.decode_at, decL, e0, e 1, e 2, e 3]
  congr 1
  simp

/-- A code point. -/
def okR (r : Int) : Bool := Utf8.valid r
theorem okR_iff {r : Int} : okR r = true ↔ (0 ≤ r ∧ r < 55296) ∨ (57344 ≤ r ∧ r ≤ 1114111) := by
  simp [okR, Utf8.valid]

/-- A number's bytes, by numbers. -/
def encN (r : Nat) : List Nat :=
  if r < 128 then [r]
  else if r < 2048 then [192 + r / 64, 128 + r % 64]
  else if r < 65536 then [224 + r / 4096, 128 + r / 64 % 64, 128 + r % 64]
  else [240 + r / 262144, 128 + r / 4096 % 64, 128 + r / 64 % 64, 128 + r % 64]
/-- A code point's bytes. -/
def enc (r : Int) : List UInt8 := (encN r.toNat).map fun x => UInt8.ofNat x

theorem okR_nat {r : Int} (h : okR r = true) : ∃ n : Nat, r = n ∧ (n < 55296 ∨ (57344 ≤ n ∧ n ≤ 1114111)) := by
  rw [okR_iff] at h
  exact ⟨r.toNat, by omega, by omega⟩
theorem encN_lt {n : Nat} (h : n ≤ 1114111) : ∀ x ∈ encN n, x < 256 := by
  intro x hx
  unfold encN at hx
  repeat' split at hx
  all_goals simp at hx; omega
theorem encN_length (n : Nat) : 1 ≤ (encN n).length ∧ (encN n).length ≤ 4 := by
  unfold encN
  repeat' split
  all_goals simp
theorem enc_length (r : Int) : (enc r).length = (encN r.toNat).length := by simp [enc]
theorem enc_pos (r : Int) : 1 ≤ (enc r).length := by rw [enc_length]; exact (encN_length _).1
theorem enc_le (r : Int) : (enc r).length ≤ 4 := by rw [enc_length]; exact (encN_length _).2
theorem enc_ne (r : Int) : enc r ≠ [] := by
  intro h; have := enc_pos r; rw [h] at this; simp at this
theorem bt_map {xs : List Nat} {l : List UInt8} {k : Nat} (hk : k < xs.length) (hx : xs.getD k 0 < 256) : bt (xs.map (fun x => UInt8.ofNat x) ++ l) k = xs.getD k 0 := by
  rw [bt_append_left (by simpa using hk)]
  simp only [bt, List.getD, List.getElem?_map, List.getElem?_eq_getElem hk, Option.map_some, Option.getD_some] at hx ⊢
  rw [UInt8.toNat_ofNat']; omega

/-- What the shelf calls a rune's bytes are these. -/
theorem encodeRune_enc {r : Int} (h : okR r = true) : Lib.encodeRune r = enc r := by
  obtain ⟨n, rfl, hn⟩ := okR_nat h
  unfold Lib.encodeRune enc Lib.encodeRuneZ encN
  rw [Int.toNat_natCast]
  have e : ∀ x : Int, ∀ y : Nat, x = y → x.toNat.toUInt8 = UInt8.ofNat y := by intro x y h; subst h; simp
  repeat' split
  all_goals first
    | (exfalso; omega)
    | (simp only [List.map_cons, List.map_nil]; (repeat' apply List.cons_eq_cons.2 ⟨?_, ?_⟩) <;> (first | rfl | (apply e; omega) | skip))
  all_goals first
    | (exfalso; omega)
    | (congr 1 <;> first | (apply e; omega) | (congr 1 <;> first | (apply e; omega) | (congr 1 <;> first | (apply e; omega) | (congr 1; apply e; omega))))

set_option maxHeartbeats 4000000 in
theorem decN_enc {n : Nat} (hn : n < 55296 ∨ (57344 ≤ n ∧ n ≤ 1114111)) {m b0 b1 b2 b3 : Nat} (hm : (encN n).length ≤ m) (h0 : b0 = (encN n).getD 0 0)
    (h1 : 1 < (encN n).length → b1 = (encN n).getD 1 0) (h2 : 2 < (encN n).length → b2 = (encN n).getD 2 0) (h3 : 3 < (encN n).length → b3 = (encN n).getD 3 0) :
    Lib.decodeN m b0 b1 b2 b3 = (n, (encN n).length) := by
  unfold encN at hm h0 h1 h2 h3 ⊢
  split at hm <;> rename_i c1
  · simp only [if_pos c1] at h0 ⊢
    simp at h0
    unfold Lib.decodeN
    rw [if_pos (by omega), h0]; rfl
  · simp only [if_neg c1] at h0 h1 h2 h3 ⊢
    split at hm <;> rename_i c2
    · simp only [if_pos c2] at h0 h1 h2 h3 ⊢
      simp at h0 h1 hm
      unfold Lib.decodeN
      repeat' split
      all_goals first | (exfalso; omega) | (apply Prod.ext <;> simp <;> omega)
    · simp only [if_neg c2] at h0 h1 h2 h3 ⊢
      split at hm <;> rename_i c3
      · simp only [if_pos c3] at h0 h1 h2 h3 ⊢
        simp at h0 h1 h2 hm
        unfold Lib.decodeN
        repeat' split
        all_goals first | (exfalso; omega) | (apply Prod.ext <;> simp <;> omega)
      · simp only [if_neg c3] at h0 h1 h2 h3 ⊢
        simp at h0 h1 h2 h3 hm
        unfold Lib.decodeN
        repeat' split
        all_goals first | (exfalso; omega) | (apply Prod.ext <;> simp <;> omega)

theorem encN_three (n : Nat) (h : (encN n).length = 1) : n < 128 := by
  unfold encN at h
  repeat' split at h
  all_goals simp at h
  assumption

/-- A code point's bytes are decoded as it. -/
theorem runeL_enc {r : Int} (h : okR r = true) (l : List UInt8) : runeL (enc r ++ l) = (r, (enc r).length) := by
  obtain ⟨n, rfl, hn⟩ := okR_nat h
  have hb : ∀ k, k < (encN n).length → bt (enc (n : Int) ++ l) k = (encN n).getD k 0 := by
    intro k hk
    unfold enc; rw [Int.toNat_natCast]
    refine bt_map hk ?_
    simp only [List.getD, List.getElem?_eq_getElem hk, Option.getD_some]
    exact encN_lt (by omega) _ (List.getElem_mem hk)
  have hp := encN_length n
  have hl : (enc (n : Int)).length = (encN n).length := by rw [enc_length, Int.toNat_natCast]
  have hd : decL (enc (n : Int) ++ l) = (n, (encN n).length) := by
    unfold decL
    exact decN_enc hn (by rw [List.length_append, hl]; omega) (hb 0 (by omega)) (fun h => hb 1 h) (fun h => hb 2 h) (fun h => hb 3 h)
  unfold runeL
  rw [hd, hl, if_neg]
  intro e
  have e1 := congrArg Prod.fst e
  have e2 := congrArg Prod.snd e
  simp at e1 e2
  have := encN_three n e2
  omega

set_option maxHeartbeats 4000000 in
theorem decN_inv {m b0 b1 b2 b3 c k : Nat} (hm : 1 ≤ m) (l0 : b0 < 256) (l1 : b1 < 256) (l2 : b2 < 256) (l3 : b3 < 256) (h : Lib.decodeN m b0 b1 b2 b3 = (c, k)) (hne : ¬ ((c, k) = (65533, 1))) :
    k ≤ m ∧ 1 ≤ k ∧ k ≤ 4 ∧ (c < 55296 ∨ (57344 ≤ c ∧ c ≤ 1114111)) ∧ encN c = [b0, b1, b2, b3].take k := by
  unfold Lib.decodeN at h
  by_cases c1 : b0 < 128
  · rw [if_pos c1] at h
    obtain ⟨rfl, rfl⟩ := Prod.mk.injEq .. ▸ h
    refine ⟨hm, by omega, by omega, by omega, ?_⟩
    unfold encN; rw [if_pos c1]; rfl
  · rw [if_neg c1] at h
    by_cases c2 : b0 / 32 = 6 ∧ (1 < m ∧ b1 / 64 = 2)
    · rw [if_pos c2] at h
      by_cases d2 : b0 % 32 * 64 + b1 % 64 ≥ 128
      · rw [if_pos d2] at h
        obtain ⟨rfl, rfl⟩ := Prod.mk.injEq .. ▸ h
        refine ⟨by omega, by omega, by omega, by omega, ?_⟩
        unfold encN; rw [if_neg (by omega), if_pos (by omega)]
        simp; omega
      · rw [if_neg d2] at h; exact absurd h.symm hne
    · rw [if_neg c2] at h
      by_cases c3 : b0 / 16 = 14 ∧ (1 < m ∧ b1 / 64 = 2) ∧ (2 < m ∧ b2 / 64 = 2)
      · rw [if_pos c3] at h
        split at h
        · rename_i d3
          obtain ⟨rfl, rfl⟩ := Prod.mk.injEq .. ▸ h
          refine ⟨by omega, by omega, by omega, by omega, ?_⟩
          unfold encN; rw [if_neg (by omega), if_neg (by omega), if_pos (by omega)]
          simp; omega
        · exact absurd h.symm hne
      · rw [if_neg c3] at h
        by_cases c4 : b0 / 8 = 30 ∧ (1 < m ∧ b1 / 64 = 2) ∧ (2 < m ∧ b2 / 64 = 2) ∧ (3 < m ∧ b3 / 64 = 2)
        · rw [if_pos c4] at h
          split at h
          · rename_i d4
            obtain ⟨rfl, rfl⟩ := Prod.mk.injEq .. ▸ h
            refine ⟨by omega, by omega, by omega, by omega, ?_⟩
            unfold encN; rw [if_neg (by omega), if_neg (by omega), if_neg (by omega)]
            simp; omega
          · exact absurd h.symm hne
        · rw [if_neg c4] at h; exact absurd h.symm hne

theorem take_bt (l : List UInt8) (k : Nat) (h : k ≤ l.length) : l.take k = ((List.range k).map (bt l)).map fun x => UInt8.ofNat x := by
  apply List.ext_getElem
  · simp; omega
  · intro i h1 h2
    simp at h1
    simp [bt, List.getD, List.getElem?_eq_getElem (show i < l.length by omega)]

theorem decL_width (l : List UInt8) (h : l ≠ []) : 1 ≤ (decL l).2 ∧ (decL l).2 ≤ l.length := by
  have hm : 1 ≤ l.length := by cases l; exact absurd rfl h; simp
  by_cases e : decL l = (65533, 1)
  · rw [e]; exact ⟨by simp, hm⟩
  · have := decN_inv (c := (decL l).1) (k := (decL l).2) hm (bt_lt l 0) (bt_lt l 1) (bt_lt l 2) (bt_lt l 3) rfl e
    omega
theorem runeL_width (l : List UInt8) (h : l ≠ []) : 1 ≤ (runeL l).2 ∧ (runeL l).2 ≤ l.length := by
  have := decL_width l h
  unfold runeL; split
  · exact ⟨by simp, by cases l; exact absurd rfl h; simp⟩
  · exact this
/-- What is decoded has these bytes. -/
theorem runeL_inv (l : List UInt8) (h : l ≠ []) (hr : 0 ≤ (runeL l).1) : okR (runeL l).1 = true ∧ enc (runeL l).1 = l.take (runeL l).2 ∧ (runeL l).2 = (decL l).2 ∧ (runeL l).1 = (decL l).1 := by
  have hm : 1 ≤ l.length := by cases l; exact absurd rfl h; simp
  unfold runeL at hr ⊢
  split
  · rename_i e; rw [if_pos e] at hr; simp at hr
  · rename_i e
    obtain ⟨a1, a2, a3, a4, a5⟩ := decN_inv (c := (decL l).1) (k := (decL l).2) hm (bt_lt l 0) (bt_lt l 1) (bt_lt l 2) (bt_lt l 3) rfl e
    refine ⟨okR_iff.2 (by omega), ?_, rfl, rfl⟩
    unfold enc
    rw [Int.toNat_natCast, a5, take_bt l _ a1]
    congr 1
    generalize (decL l).2 = k at *
    have hk : k = 1 ∨ k = 2 ∨ k = 3 ∨ k = 4 := by omega
    rcases hk with rfl | rfl | rfl | rfl <;> rfl
theorem runeL_neg (l : List UInt8) (hr : ¬ 0 ≤ (runeL l).1) : runeL l = (-1, 1) ∧ decL l = (65533, 1) := by
  unfold runeL at hr ⊢
  split
  · rename_i e; exact ⟨rfl, e⟩
  · rename_i e; rw [if_neg e] at hr; exact absurd (by simp) hr
theorem runeL_bad {l : List UInt8} (h : decL l = (65533, 1)) : runeL l = (-1, 1) := by unfold runeL; rw [if_pos h]

/-- Bytes that begin with one that goes on. -/
theorem runeL_cont {l : List UInt8} (h : bt l 0 / 64 = 2) : runeL l = (-1, 1) := by
  apply runeL_bad
  have := bt_lt l 0
  unfold decL Lib.decodeN
  rw [if_neg (by omega), if_neg (by omega), if_neg (by omega), if_neg (by omega)]
theorem encN_cont {n : Nat} (hn : n ≤ 1114111) {k : Nat} (hk : k < (encN n).length) : (encN n).getD k 0 / 64 = 2 ↔ 0 < k := by
  unfold encN at hk ⊢
  split at hk <;> rename_i c1
  · rw [if_pos c1]; simp at hk; subst hk; simp; omega
  · rw [if_neg c1]
    split at hk <;> rename_i c2
    · rw [if_pos c2]; simp at hk
      have : k = 0 ∨ k = 1 := by omega
      rcases this with rfl | rfl <;> simp <;> omega
    · rw [if_neg c2]
      split at hk <;> rename_i c3
      · rw [if_pos c3]; simp at hk
        have : k = 0 ∨ k = 1 ∨ k = 2 := by omega
        rcases this with rfl | rfl | rfl <;> simp <;> omega
      · rw [if_neg c3]; simp at hk
        have : k = 0 ∨ k = 1 ∨ k = 2 ∨ k = 3 := by omega
        rcases this with rfl | rfl | rfl | rfl <;> simp <;> omega
theorem bt_enc {r : Int} (h : okR r = true) (l : List UInt8) {k : Nat} (hk : k < (enc r).length) : bt (enc r ++ l) k = (encN r.toNat).getD k 0 := by
  obtain ⟨n, rfl, hn⟩ := okR_nat h
  rw [enc_length] at hk
  unfold enc
  refine bt_map hk ?_
  simp only [List.getD, List.getElem?_eq_getElem hk, Option.getD_some]
  exact encN_lt (by omega) _ (List.getElem_mem hk)
theorem bt_enc_cont {r : Int} (h : okR r = true) (l : List UInt8) {k : Nat} (hk : k < (enc r).length) : bt (enc r ++ l) k / 64 = 2 ↔ 0 < k := by
  rw [bt_enc h l hk]
  obtain ⟨n, rfl, hn⟩ := okR_nat h
  exact encN_cont (by omega) (by rwa [enc_length] at hk)
set_option maxHeartbeats 1000000 in
theorem decN_cut {n : Nat} (hn : n ≤ 1114111) {j : Nat} (h0 : 0 < j) (hj : j < (encN n).length) (b1 b2 b3 : Nat) : Lib.decodeN j ((encN n).getD 0 0) b1 b2 b3 = (65533, 1) := by
  unfold encN at hj ⊢
  split at hj <;> rename_i c1
  · simp at hj; omega
  · rw [if_neg c1]
    split at hj <;> rename_i c2
    · rw [if_pos c2]; simp at hj
      simp only [List.getD_cons_zero]
      unfold Lib.decodeN
      rw [if_neg (by omega), if_neg (by omega), if_neg (by omega), if_neg (by omega)]
    · rw [if_neg c2]
      split at hj <;> rename_i c3
      · rw [if_pos c3]; simp at hj
        simp only [List.getD_cons_zero]
        unfold Lib.decodeN
        rw [if_neg (by omega), if_neg (by omega), if_neg (by omega), if_neg (by omega)]
      · rw [if_neg c3]; simp at hj
        simp only [List.getD_cons_zero]
        unfold Lib.decodeN
        rw [if_neg (by omega), if_neg (by omega), if_neg (by omega), if_neg (by omega)]
/-- A code point's bytes, cut. -/
theorem runeL_cut {r : Int} (h : okR r = true) {j : Nat} (h0 : 0 < j) (hj : j < (enc r).length) : runeL ((enc r).take j) = (-1, 1) := by
  apply runeL_bad
  have hb : bt ((enc r).take j) 0 = (encN r.toNat).getD 0 0 := by
    rw [← bt_enc h [] (show 0 < (enc r).length by omega), List.append_nil]
    simp [bt, List.getD, List.getElem?_take, h0]
  have hl : ((enc r).take j).length = j := by rw [List.length_take]; omega
  unfold decL
  rw [hl, hb]
  obtain ⟨n, rfl, hn⟩ := okR_nat h
  rw [enc_length] at hj
  exact decN_cut (by omega) h0 hj _ _ _

/-- All code points of these bytes, in at most f steps. -/
def runesF : Nat → List UInt8 → List Int
  | 0, _ => []
  | f + 1, l => if l = [] then [] else (runeL l).1 :: runesF f (l.drop (runeL l).2)
def runesL (l : List UInt8) : List Int := runesF l.length l
theorem runesF_nil (f : Nat) : runesF f [] = [] := by cases f <;> simp [runesF]
theorem runesF_eq : ∀ (f g : Nat) (l : List UInt8), l.length ≤ f → l.length ≤ g → runesF f l = runesF g l := by
  intro f
  induction f with
  | zero => intro g l h _; have : l = [] := List.eq_nil_of_length_eq_zero (by omega)
            rw [this, runesF_nil, runesF_nil]
  | succ f ih =>
    intro g l h k
    cases g with
    | zero => have : l = [] := List.eq_nil_of_length_eq_zero (by omega)
              rw [this, runesF_nil, runesF_nil]
    | succ g =>
      by_cases hl : l = []
      · rw [hl, runesF_nil, runesF_nil]
      · have hw := runeL_width l hl
        simp only [runesF, if_neg hl]
        rw [ih g _ (by rw [List.length_drop]; omega) (by rw [List.length_drop]; omega)]
theorem runesL_nil : runesL [] = [] := rfl
theorem runesL_cons {l : List UInt8} (h : l ≠ []) : runesL l = (runeL l).1 :: runesL (l.drop (runeL l).2) := by
  have hw := runeL_width l h
  unfold runesL
  have hm : l.length = (l.length - 1) + 1 := by omega
  rw [hm, runesF, if_neg h, runesF_eq _ (l.drop (runeL l).2).length _ (by rw [List.length_drop]; omega) (Nat.le_refl _)]
theorem runesL_length : ∀ (m : Nat) (l : List UInt8), l.length ≤ m → (runesL l).length ≤ l.length := by
  intro m
  induction m with
  | zero => intro l h; have : l = [] := List.eq_nil_of_length_eq_zero (by omega)
            rw [this]; simp [runesL_nil]
  | succ m ih =>
    intro l h
    by_cases hl : l = []
    · rw [hl]; simp [runesL_nil]
    · have hw := runeL_width l hl
      rw [runesL_cons hl, List.length_cons]
      have := ih (l.drop (runeL l).2) (by rw [List.length_drop]; omega)
      rw [List.length_drop] at this; omega
theorem runesL_le (l : List UInt8) : (runesL l).length ≤ l.length := runesL_length _ l (Nat.le_refl _)

/-- Whether all of it is UTF-8. -/
def validL (l : List UInt8) : Bool := (runesL l).all fun r => decide (0 ≤ r)
/-- Code points' bytes, one behind the other. -/
def joinL (rs : List Int) : List UInt8 := rs.flatMap enc
def okAll (rs : List Int) : Bool := rs.all okR
theorem joinL_cons (r : Int) (rs : List Int) : joinL (r :: rs) = enc r ++ joinL rs := rfl
theorem joinL_append (a b : List Int) : joinL (a ++ b) = joinL a ++ joinL b := by simp [joinL]
theorem joinL_length (rs : List Int) : (joinL rs).length ≤ 4 * rs.length := by
  induction rs with
  | nil => simp [joinL]
  | cons r rs ih => have := enc_le r; rw [joinL_cons, List.length_append, List.length_cons]; omega
theorem runesL_enc {r : Int} (h : okR r = true) (l : List UInt8) : runesL (enc r ++ l) = r :: runesL l := by
  have he := runeL_enc h l
  rw [runesL_cons (by simp [enc_ne]), he]
  simp
theorem okR_pos {r : Int} (h : okR r = true) : 0 ≤ r := by rw [okR_iff] at h; omega
theorem runes_join : ∀ (rs : List Int) (l : List UInt8), okAll rs = true → runesL (joinL rs ++ l) = rs ++ runesL l := by
  intro rs
  induction rs with
  | nil => intro l _; rfl
  | cons r rs ih =>
    intro l h
    simp only [okAll, List.all_cons, Bool.and_eq_true] at h
    rw [joinL_cons, List.append_assoc, runesL_enc h.1, ih l h.2]; rfl
theorem runes_join_nil {rs : List Int} (h : okAll rs = true) : runesL (joinL rs) = rs := by
  have := runes_join rs [] h
  simpa [runesL_nil] using this
theorem valid_join {rs : List Int} (h : okAll rs = true) : validL (joinL rs) = true := by
  unfold validL; rw [runes_join_nil h, List.all_eq_true]
  intro r hr
  have := okR_pos (List.all_eq_true.1 h r hr)
  simpa using this
theorem valid_cons {l : List UInt8} (h : l ≠ []) : validL l = (decide (0 ≤ (runeL l).1) && validL (l.drop (runeL l).2)) := by
  unfold validL; rw [runesL_cons h]; rfl
theorem join_runesF : ∀ (m : Nat) (l : List UInt8), l.length ≤ m → validL l = true → okAll (runesL l) = true ∧ joinL (runesL l) = l := by
  intro m
  induction m with
  | zero => intro l h _; have : l = [] := List.eq_nil_of_length_eq_zero (by omega)
            rw [this]; exact ⟨rfl, rfl⟩
  | succ m ih =>
    intro l h hv
    by_cases hl : l = []
    · rw [hl]; exact ⟨rfl, rfl⟩
    · have hw := runeL_width l hl
      rw [valid_cons hl, Bool.and_eq_true, decide_eq_true_eq] at hv
      obtain ⟨h1, h2, _, _⟩ := runeL_inv l hl hv.1
      obtain ⟨i1, i2⟩ := ih (l.drop (runeL l).2) (by rw [List.length_drop]; omega) hv.2
      rw [runesL_cons hl]
      refine ⟨by simp only [okAll, List.all_cons, Bool.and_eq_true]; exact ⟨h1, i1⟩, ?_⟩
      rw [joinL_cons, h2, i2, List.take_append_drop]
/-- Of a valid text runes and joining undo one another. -/
theorem join_runes {l : List UInt8} (h : validL l = true) : okAll (runesL l) = true ∧ joinL (runesL l) = l := join_runesF _ l (Nat.le_refl _) h
theorem okAll_append {a b : List Int} (ha : okAll a = true) (hb : okAll b = true) : okAll (a ++ b) = true := by simp [okAll] at ha hb ⊢; exact ⟨ha, hb⟩
/-- Two valid texts, one behind the other. -/
theorem valid_append {a b : List UInt8} (ha : validL a = true) (hb : validL b = true) : validL (a ++ b) = true ∧ runesL (a ++ b) = runesL a ++ runesL b := by
  obtain ⟨a1, a2⟩ := join_runes ha
  obtain ⟨b1, b2⟩ := join_runes hb
  have e : a ++ b = joinL (runesL a ++ runesL b) := by rw [joinL_append, a2, b2]
  constructor
  · rw [e]; exact valid_join (okAll_append a1 b1)
  · conv => lhs; rw [e]
    exact runes_join_nil (okAll_append a1 b1)

/-- A valid text, cut: the halves are valid where no byte that goes on stands behind the cut, and only there. -/
theorem cut_join : ∀ (rs : List Int), okAll rs = true → ∀ k, k ≤ (joinL rs).length →
    (∃ i, (joinL rs).take k = joinL (rs.take i) ∧ (joinL rs).drop k = joinL (rs.drop i) ∧ (k = (joinL rs).length ∨ bt (joinL rs) k / 64 ≠ 2)) ∨
    (k < (joinL rs).length ∧ bt (joinL rs) k / 64 = 2 ∧ validL ((joinL rs).take k) = false ∧ validL ((joinL rs).drop k) = false) := by
  intro rs
  induction rs with
  | nil => intro _ k hk; left; simp [joinL] at hk; subst hk; exact ⟨0, rfl, rfl, .inl rfl⟩
  | cons r rs ih =>
    intro h k hk
    simp only [okAll, List.all_cons, Bool.and_eq_true] at h
    have he := enc_pos r
    rw [joinL_cons] at hk ⊢
    by_cases h0 : k = 0
    · subst h0
      left
      refine ⟨0, by simp [joinL], by simp [joinL_cons], .inr ?_⟩
      intro e; have := (bt_enc_cont h.1 (joinL rs) (show 0 < (enc r).length by omega)).1 e; omega
    · by_cases hlt : k < (enc r).length
      · right
        have hb := (bt_enc_cont h.1 (joinL rs) hlt).2 (by omega)
        have hne : (enc r).take k ≠ [] := by
          intro e; have := congrArg List.length e; rw [List.length_take] at this; simp only [List.length_nil] at this; omega
        refine ⟨by rw [List.length_append]; omega, hb, ?_, ?_⟩
        · rw [List.take_append_of_le_length (Nat.le_of_lt hlt), valid_cons hne, runeL_cut h.1 (by omega) hlt]; rfl
        · have hd : bt ((enc r ++ joinL rs).drop k) 0 / 64 = 2 := by rw [bt_drop]; exact hb
          have hne2 : (enc r ++ joinL rs).drop k ≠ [] := by
            intro e; have := congrArg List.length e; rw [List.length_drop, List.length_append] at this; simp only [List.length_nil] at this; omega
          rw [valid_cons hne2, runeL_cont hd]; rfl
      · obtain ⟨j, rfl⟩ : ∃ j, k = (enc r).length + j := ⟨k - (enc r).length, by omega⟩
        have hk' : j ≤ (joinL rs).length := by rw [List.length_append] at hk; omega
        have et : (enc r ++ joinL rs).take ((enc r).length + j) = enc r ++ (joinL rs).take j := List.take_length_add_append ..
        have ed : (enc r ++ joinL rs).drop ((enc r).length + j) = (joinL rs).drop j := List.drop_length_add_append ..
        rw [bt_append_right, List.length_append]
        rcases ih h.2 j hk' with ⟨i, a1, a2, a3⟩ | ⟨a1, a2, a3, a4⟩
        · left
          refine ⟨i + 1, ?_, ?_, ?_⟩
          · rw [et, a1]; rfl
          · rw [ed, a2]; rfl
          · rcases a3 with a3 | a3
            · left; omega
            · right; exact a3
        · right
          refine ⟨by omega, a2, ?_, ?_⟩
          · rw [et, valid_cons (by simp [enc_ne]), runeL_enc h.1]
            simp [a3]
          · rw [ed]; exact a4
/-- Whether a cut at k is between two code points. -/
def edgeL (l : List UInt8) (k : Nat) : Bool := decide (k = l.length ∨ bt l k / 64 ≠ 2)
theorem okAll_take {rs : List Int} (h : okAll rs = true) (i : Nat) : okAll (rs.take i) = true := by
  simp only [okAll, List.all_eq_true] at h ⊢; exact fun x hx => h x (List.mem_of_mem_take hx)
theorem okAll_drop {rs : List Int} (h : okAll rs = true) (i : Nat) : okAll (rs.drop i) = true := by
  simp only [okAll, List.all_eq_true] at h ⊢; exact fun x hx => h x (List.mem_of_mem_drop hx)
theorem cut_valid {l : List UInt8} (h : validL l = true) {k : Nat} (hk : k ≤ l.length) : validL (l.take k) = edgeL l k ∧ validL (l.drop k) = edgeL l k := by
  obtain ⟨h1, h2⟩ := join_runes h
  have hc := cut_join (runesL l) h1 k (by rw [h2]; exact hk)
  rw [h2] at hc
  rcases hc with ⟨i, a1, a2, a3⟩ | ⟨a1, a2, a3, a4⟩
  · have e : edgeL l k = true := decide_eq_true a3
    rw [e, a1, a2]
    exact ⟨valid_join (okAll_take h1 i), valid_join (okAll_drop h1 i)⟩
  · have e : edgeL l k = false := decide_eq_false (by rintro (h | h); omega; exact h a2)
    rw [e]; exact ⟨a3, a4⟩
end Go.Proofs.Ytndjdmgncjiggaa
/- The walks of package utf: Rune, wrong. -/
namespace Go.Proofs.Ytndjdmgncjiggaa
open Go.RowKit Go.Shelf
set_option linter.unusedVariables false
set_option linter.unusedSimpArgs false

/-- Chapter 4's Rune of a text, at a place. -/
def runeAt (s : ByteArray) (k : Int) : Int × Int :=
  if k < 0 ∨ (s.size : Int) ≤ k then (-1, 0) else ((runeL (s.data.toList.drop k.toNat)).1, ((runeL (s.data.toList.drop k.toNat)).2 : Int))

theorem extract_list (s : ByteArray) (k : Nat) : (s.extract k s.size).data.toList = s.data.toList.drop k := by
  rw [ByteArray.data_extract, Array.toList_extract]
  simp [List.extract_eq_take_drop]
  exact List.take_of_length_le (by simp)
theorem decodeGo_drop (s : ByteArray) (k : Nat) (h : k < s.size) : Lib.decodeGo (s.extract k s.size) = decL (s.data.toList.drop k) := by
  have hz : (s.extract k s.size).size ≠ 0 := by rw [ByteArray.size_extract]; omega
  unfold Lib.decodeGo
  rw [if_neg hz, decode_list]
  congr 1
  rw [List.drop_zero]
  exact extract_list s k

/-- Whether the code point at a place is none. -/
def noneAt (s : ByteArray) (k : Int) : Bool := decide ((runeAt s k).1 = -1)
end Go.Proofs.Ytndjdmgncjiggaa
/- The walks of package utf: validBytes, Valid. -/
namespace Go.Proofs.Ytndjdmgncjiggaa
open Go.RowKit Go.Shelf
set_option linter.unusedVariables false
set_option linter.unusedSimpArgs false

/-- What holds of the bytes from the front on that are UTF-8. -/
def VB (s : ByteArray) (B : Nat) (w : World) (e : Ending) (w' : World) : Prop :=
  ∃ n : Nat, e = .returned (.int .i64 n) ∧ n ≤ s.size ∧ (n = s.size ↔ validL s.data.toList = true) ∧ Below B w w'

/-- The walk of a range over a text: the iterator's block, and where it stands. -/
def RI (s : ByteArray) (B : Nat) (w : World) (pos : Nat) (wr : World) : Prop :=
  wr.heap[B]? = some (.stringIter s pos) ∧ Below B w wr
theorem RI.start (s : ByteArray) (w : World) : RI s w.heap.size w 0 (w.iter s 0) :=
  ⟨World.iter_heap w s 0, (Below.refl _ w).alloc (Nat.le_refl _) _⟩
theorem RI.lt {s : ByteArray} {B : Nat} {w : World} {pos : Nat} {wr : World} (h : RI s B w pos wr) : B < wr.heap.size := (Array.getElem?_eq_some_iff.1 h.1).1
theorem RI.next {s : ByteArray} {B : Nat} {w : World} {pos : Nat} {wr : World} (h : RI s B w pos wr) (q : Nat) : RI s B w q (wr.iterAt B s q) :=
  ⟨Lib.iterAt_heap wr B s pos q h.1, Lib.below_iterAt h.2 (Nat.le_refl _) s q⟩
theorem RI.below {s : ByteArray} {B : Nat} {w : World} {pos : Nat} {wr w' : World} (h : RI s B w pos wr) (hb : Below wr.heap.size wr w') : RI s B w pos w' :=
  ⟨by rw [hb.block B h.lt]; exact h.1, h.2.trans (hb.mono (Nat.le_of_lt h.lt))⟩
theorem RI.pos {s : ByteArray} {B : Nat} {w : World} {pos : Nat} {wr : World} (h : RI s B w pos wr) : wr.iterPos B = pos := by
  simp [World.iterPos, h.1]

/-- The text from a place on. -/
def tailL (s : ByteArray) (k : Nat) : List UInt8 := s.data.toList.drop k
theorem tailL_zero (s : ByteArray) : tailL s 0 = s.data.toList := by simp [tailL]
theorem tailL_length (s : ByteArray) (k : Nat) : (tailL s k).length = s.size - k := by simp [tailL]
theorem tailL_ne {s : ByteArray} {k : Nat} (h : k < s.size) : tailL s k ≠ [] := by
  intro e; have := congrArg List.length e; rw [tailL_length] at this; simp only [List.length_nil] at this; omega
theorem tailL_end {s : ByteArray} {k : Nat} (h : s.size ≤ k) : tailL s k = [] := List.eq_nil_of_length_eq_zero (by rw [tailL_length]; omega)
theorem tailL_drop (s : ByteArray) (k m : Nat) : (tailL s k).drop m = tailL s (k + m) := by simp [tailL, List.drop_drop]
theorem decode_tail (s : ByteArray) (k : Nat) : Utf8.decode s k = decL (tailL s k) := decode_list s k
theorem runeAt_tail {s : ByteArray} {k : Nat} (h : k < s.size) : runeAt s k = ((runeL (tailL s k)).1, ((runeL (tailL s k)).2 : Int)) := by
  unfold runeAt; rw [if_neg (by omega)]; rfl
theorem noneAt_tail {s : ByteArray} {k : Nat} (h : k < s.size) : noneAt s k = decide ((runeL (tailL s k)).1 = -1) := by
  unfold noneAt; rw [runeAt_tail h]
theorem valid_tail {s : ByteArray} {k : Nat} (h : k < s.size) : validL (tailL s k) = (decide (0 ≤ (runeL (tailL s k)).1) && validL (tailL s (k + (runeL (tailL s k)).2))) := by
  rw [valid_cons (tailL_ne h), tailL_drop]
/-- Where the model's code point is not that of what is wrong, it is the one there. -/
theorem rune_not {l : List UInt8} (h : (decL l).1 ≠ 65533) : runeL l = (((decL l).1 : Int), (decL l).2) := by
  unfold runeL; rw [if_neg]; intro e; exact h (congrArg Prod.fst e)
theorem runeL_lo (l : List UInt8) : -1 ≤ (runeL l).1 := by unfold runeL; split <;> simp <;> omega
theorem rune_width (l : List UInt8) : (runeL l).2 = (decL l).2 := by unfold runeL; split; rename_i e; rw [e]; rfl

/-- What holds from round to round of validBytes. -/
def VR (s : ByteArray) (B : Nat) (w : World) (k : Nat) (e : Value) (wr : World) : Prop :=
  ∃ pos, s.size - pos ≤ k ∧ e = .int .i64 s.size ∧ validL s.data.toList = validL (tailL s pos) ∧ RI s B w pos wr

end Go.Proofs.Ytndjdmgncjiggaa
