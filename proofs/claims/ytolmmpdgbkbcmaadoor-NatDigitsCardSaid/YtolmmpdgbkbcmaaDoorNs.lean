/- The walks of short, Parse. -/
import Derived.Test.YtolmmpdgbkbcmaaDoorNr
namespace Go.Proofs.YtolmmpdgbkbcmaaDoor
open Go.RowKit
set_option linter.unusedVariables false

/-- The bytes of a text as numbers. -/
def nums (s : ByteArray) : List Nat := s.data.toList.map UInt8.toNat
theorem nums_len (s : ByteArray) : (nums s).length = s.size := by
  unfold nums; rw [List.length_map]; rfl
theorem nums_at (s : ByteArray) (k : Nat) (h : k < s.size) : (nums s).getD k 0 = s[k].toNat := by
  have h1 : k < s.data.toList.length := h
  unfold nums
  simp only [List.getD, List.getElem?_map, List.getElem?_eq_getElem h1, Option.map_some, Option.getD_some]
  rfl
/-- The natural that digits tell, the highest first. -/
def hval (l : List Nat) : Nat := dval l.reverse
theorem hval_nil : hval [] = 0 := rfl
theorem hval_snoc (l : List Nat) (x : Nat) : hval (l ++ [x]) = 10 * hval l + (x - 48) := by
  unfold hval; rw [List.reverse_append]; simp only [List.reverse_cons, List.reverse_nil, List.nil_append, List.cons_append, dval]; omega
theorem hval_one (x : Nat) : hval [x] = x - 48 := by have := hval_snoc [] x; simpa [hval_nil] using this
theorem hval_append (l m : List Nat) : hval (l ++ m) = hval l * tenN m.length + hval m := by
  induction m generalizing l with
  | nil => simp [tenN, hval_nil]
  | cons x m ih =>
    have e1 : l ++ x :: m = (l ++ [x]) ++ m := by simp
    have e2 : x :: m = [x] ++ m := rfl
    rw [e1, ih, e2, ih [x], hval_snoc, hval_one, List.length_append, List.length_singleton, Nat.add_comm 1, tenN_succ]
    grind
theorem hval_lt {l : List Nat} (h : Okd l) : hval l < tenN l.length := by
  have := dval_lt l.reverse h.rev
  rwa [List.length_reverse] at this
theorem take_snoc' (l : List Nat) (k : Nat) (h : k < l.length) : l.take (k + 1) = l.take k ++ [l.getD k 0] := by
  rw [List.take_succ_eq_append_getElem h]; simp [List.getD, h]

def ShortPost (l : List Nat) (w : World) (e : Ending) (w' : World) : Prop :=
  ((Okd l ∧ e = .returned (.tuple #[.int .u32 ((hval l : Nat) : Int), .bool true])) ∨ (¬ Okd l ∧ e = .returned (.tuple #[.int .u32 0, .bool false]))) ∧ w = w'

set_option maxHeartbeats 1000000 in
theorem short_any (s : ByteArray) (w : World) (hs : s.size ≤ 9) :
    Calls Tryd.prog 43 #[.string s] w (ShortPost (nums s) w) := by
  go_enter Tryd.func43, Tryd.ntmps43
  go_wp2
  go_loop [2, 7] (fun v i => ∃ (k x : Nat), k ≤ s.size ∧ i = .int .i64 k ∧ v = .int .u32 x ∧ x = hval ((nums s).take k) ∧ Okd ((nums s).take k)) (fun _ i => s.size - (intOf i).toNat)
  case atStart => exact ⟨0, 0, by omega, rfl, rfl, rfl, by rw [List.take_zero]; exact Okd.nil⟩
  case round =>
    obtain ⟨k, x, hk, rfl, rfl, hx, hod⟩ := hrel
    have HX := Lib.hid hx; clear hx
    by_cases hlt : k < s.size
    · have hxb : x < 100000000 := by
        have h1 := hval_lt hod
        rw [← HX.out, List.length_take, nums_len, Nat.min_eq_left hk] at h1
        have h2 := tenN_le (show k ≤ 8 by omega)
        have h3 : tenN 8 = 100000000 := by decide
        omega
      have hat := nums_at s k hlt
      have htk := take_snoc' (nums s) k (by rw [nums_len]; exact hlt)
      rw [hat] at htk
      have HT := Lib.hid htk
      have hmem : s[k].toNat ∈ nums s := by
        have h1 : s[k].toNat ∈ (nums s).take (k + 1) := by rw [htk]; simp
        exact List.mem_of_mem_take h1
      have HM := Lib.hid hmem
      clear hat htk hmem
      by_cases h1 : s[k].toNat < 48
      · have hbad : ¬ Okd (nums s) := fun h => by have := h _ HM.out; omega
        go_wp2
        go_ret2
        exact ⟨.inr ⟨hbad, rfl⟩, rfl⟩
      · by_cases h2 : 57 < s[k].toNat
        · have hbad : ¬ Okd (nums s) := fun h => by have := h _ HM.out; omega
          go_wp2
          go_ret2
          exact ⟨.inr ⟨hbad, rfl⟩, rfl⟩
        · have hv : Hid (10 * x + (s[k].toNat - 48) = hval ((nums s).take (k + 1))) := by
            unfold Hid; rw [HT.out, hval_snoc, HX.out]
          have hok : Okd ((nums s).take (k + 1)) := by rw [HT.out]; exact hod.snoc (by omega) (by omega)
          go_wp2
          go_round
          case rel => exact ⟨k + 1, 10 * x + (s[k].toNat - 48), by omega, by go_num, by go_num, hv.out, hok⟩
          case measure => simp [intOf]; omega
    · obtain rfl : k = s.size := by omega
      have e : (nums s).take s.size = nums s := List.take_of_length_le (by rw [nums_len]; exact Nat.le_refl _)
      rw [e] at hod
      have hx := HX.out
      rw [e] at hx
      have HX2 := Lib.hid hx; clear hx e
      go_wp2
      go_ret2
      exact ⟨.inl ⟨hod, by rw [← HX2.out]; rfl⟩, rfl⟩

theorem nums_take (t : ByteArray) (n : Nat) : nums (t.extract 0 n) = (nums t).take n := by
  unfold nums; simp [ByteArray.data_extract, List.map_take]
theorem nums_drop (t : ByteArray) (n : Nat) : nums (t.extract n t.size) = (nums t).drop n := by
  have e : (nums t).drop n = ((nums t).drop n).take (t.size - n) := by
    rw [List.take_of_length_le]; rw [List.length_drop, nums_len]; exact Nat.le_refl _
  rw [e]
  unfold nums; simp [ByteArray.data_extract, List.map_take, List.map_drop]

/-- What Parse tells of a text's bytes. -/
def ParsePost (l : List Nat) (w : World) (e : Ending) (w' : World) : Prop :=
  ((0 < l.length ∧ l.length ≤ 2000 ∧ Okd l ∧ ∃ v, e = .returned (.tuple #[v, .bool true]) ∧ Own w.heap.size w' v (limbs (hval l))) ∨
   (¬ (0 < l.length ∧ l.length ≤ 2000 ∧ Okd l) ∧ e = .returned (.tuple #[.slice none 0 0, .bool false]))) ∧ Below w.heap.size w w'

def PRel (G : Nat) (s : ByteArray) (w : World) (k : Nat) (sv lvv : Value) (wr : World) : Prop :=
  ∃ (t : ByteArray) (done : List Nat), k = t.size ∧ sv = .string t ∧ nums s = done ++ nums t ∧ Okd done ∧ Own G wr lvv (limbs (hval done)) ∧ Below G w wr

set_option maxHeartbeats 4000000 in
set_option maxRecDepth 100000 in
theorem parse_any (s : ByteArray) (w : World) :
    Calls Tryd.prog 17 #[.string s] w (ParsePost (nums s) w) := by
  by_cases h0 : s.size = 0
  · have hs : s = ByteArray.empty := by
      apply ByteArray.ext; apply Array.eq_empty_of_size_eq_zero; exact h0
    have hbad : ¬ (0 < (nums s).length ∧ (nums s).length ≤ 2000 ∧ Okd (nums s)) := by rw [nums_len]; omega
    have HB := Lib.hid hbad; clear hbad
    go_enter Tryd.func17, Tryd.ntmps17
    go_wp2
    go_ret2
    exact ⟨.inr ⟨HB.out, rfl⟩, Below.refl _ _⟩
  · have hne : ¬ s.toList = [] := fun h => h0 (by
      have h1 : s.data.toList = [] := by simpa [ByteArray.toList_eq] using h
      show s.data.size = 0
      rw [← Array.length_toList, h1]; rfl)
    have hemp : s.toList.isEmpty = false := by
      cases hl : s.toList with
      | nil => exact absurd hl hne
      | cons a l => rfl
    by_cases h2 : 2000 < s.size
    · have hbad : ¬ (0 < (nums s).length ∧ (nums s).length ≤ 2000 ∧ Okd (nums s)) := by rw [nums_len]; omega
      have HB := Lib.hid hbad; clear hbad
      go_enter Tryd.func17, Tryd.ntmps17
      go_wp2
      go_ret2
      exact ⟨.inr ⟨HB.out, rfl⟩, Below.refl _ _⟩
    · generalize hG : w.heap.size = G at *
      go_enter Tryd.func17, Tryd.ntmps17
      go_wp2
      go_loopg [0, 4] s.size (fun k sv lvv wr => PRel G s w k sv lvv wr)
      case atStart => exact ⟨s, [], rfl, rfl, rfl, Okd.nil, Own.nil _ _, Below.refl _ _⟩
      case round =>
        obtain ⟨t, done, rfl, rfl, hs, hod, hown, hbl⟩ := hrel
        have hlen : done.length + t.size = s.size := by
          have := congrArg List.length hs
          rw [List.length_append, nums_len, nums_len] at this; omega
        have HS := Lib.hid hs; clear hs
        have HLN := Lib.hid hlen; clear hlen
        have hsG : G ≤ wr.heap.size := Nat.le_trans (by rw [← hG]; exact Nat.le_refl _) hbl.size
        by_cases ht : t.size = 0
        · have hnt : nums t = [] := List.eq_nil_of_length_eq_zero (by rw [nums_len]; exact ht)
          have hall : nums s = done := by rw [HS.out, hnt, List.append_nil]
          have hgood : 0 < (nums s).length ∧ (nums s).length ≤ 2000 ∧ Okd (nums s) := ⟨by rw [nums_len]; omega, by rw [nums_len]; omega, by rw [hall]; exact hod⟩
          have HGD := Lib.hid hgood
          have HALL := Lib.hid hall
          clear hgood hall hnt
          go_wp2
          go_ret2
          exact ⟨.inl ⟨HGD.out.1, HGD.out.2.1, HGD.out.2.2, u4, rfl, by rw [hG, HALL.out]; exact hown⟩, by rw [hG]; exact hbl⟩
        · have hmin : min (t.size : Int) 9 = ((min t.size 9 : Nat) : Int) := by omega
          have hm1 : min t.size 9 ≤ t.size := Nat.min_le_left _ _
          have hm9 : min t.size 9 ≤ 9 := Nat.min_le_right _ _
          have hm0 : 0 < min t.size 9 := by omega
          generalize min t.size 9 = m at *
          have hes : (t.extract 0 m).size = m := by rw [← nums_len, nums_take, List.length_take, nums_len]; omega
          have hsp : nums t = nums (t.extract 0 m) ++ nums (t.extract m t.size) := by rw [nums_take, nums_drop, List.take_append_drop]
          have hrs : (t.extract m t.size).size = t.size - m := by rw [← nums_len, nums_drop, List.length_drop, nums_len]
          have K1 := Lib.hid (short_any (t.extract 0 m) wr (by omega))
          have HES := Lib.hid hes
          have HSP := Lib.hid hsp
          have HRS := Lib.hid hrs
          clear hes hsp hrs
          go_wp2_with fail
          refine K1.out.mono ?_
          rintro e w' ⟨⟨hok, rfl⟩ | ⟨hbad, rfl⟩, rfl⟩
          · have hvl := hval_lt hok
            rw [nums_len, HES.out] at hvl
            have hvb : hval (nums (t.extract 0 m)) < B32 := by
              have := tenN_le hm9; rw [tenN_9] at this; rw [B32_eq]; omega
            have hll : (limbs (hval done)).length ≤ 2001 := by
              have h1 := hval_lt hod
              have h3 : tenN done.length ≤ B32 ^ done.length := Nat.pow_le_pow_left (by decide) _
              have h4 := limbs_length_le (Nat.lt_of_lt_of_le h1 h3)
              have := HLN.out; omega
            have hap := hval_append done (nums (t.extract 0 m))
            rw [nums_len, HES.out] at hap
            generalize hV : hval (nums (t.extract 0 m)) = V at *
            have hod2 : Okd (done ++ nums (t.extract 0 m)) := fun x hx => by
              rcases List.mem_append.1 hx with h | h
              · exact hod x h
              · exact hok x h
            have K3 := timesPlus_any G u4 (limbs (hval done)) (tenN m) V wr hown hsG (by omega) (by have := tenN_le hm9; rw [tenN_9] at this; rw [B32_eq]; omega) hvb
            rw [val_limbs, ← hap] at K3
            have K3H := Lib.hid K3
            clear K3 hap hV hvl hvb
            go_wp2_with fail
            refine (tens_any m _ hm9).mono ?_
            rintro e w' ⟨rfl, rfl⟩
            go_wp2_with fail
            refine K3H.out.mono ?_
            rintro e w4 ⟨v4, rfl, hv4, hb4⟩
            go_wp2
            go_roundg (t.extract m t.size).size
            case measure => rw [HRS.out]; omega
            case rel => exact ⟨t.extract m t.size, done ++ nums (t.extract 0 m), rfl, rfl, by rw [HS.out, HSP.out, List.append_assoc], hod2, hv4, hbl.trans hb4⟩
          · have hbad2 : ¬ (0 < (nums s).length ∧ (nums s).length ≤ 2000 ∧ Okd (nums s)) := fun h => hbad (fun x hx => h.2.2 x (by rw [HS.out, HSP.out]; simp [hx]))
            have HB := Lib.hid hbad2
            clear hbad2 hbad
            go_wp2
            go_ret2
            exact ⟨.inr ⟨HB.out, rfl⟩, by rw [hG]; exact hbl⟩
end Go.Proofs.YtolmmpdgbkbcmaaDoor
