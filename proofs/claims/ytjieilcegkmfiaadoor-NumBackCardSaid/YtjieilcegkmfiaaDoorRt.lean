/- A number's digits with zeros and an exponent behind are read as it; the walk of the law's own text. -/
import Derived.Test.YtjieilcegkmfiaaDoorRd
import Derived.Test.YtjieilcegkmfiaaDoorC8
namespace Go.Proofs.YtjieilcegkmfiaaDoor
open Go.RowKit Go.Sort
set_option linter.unusedVariables false
set_option linter.unusedSimpArgs false

def smallT (v : Int) : List Nat := signT (decide (v < 0)) ++ dec v.natAbs
theorem smallT_ok (v : Int) : Okb (smallT v) := by
  unfold smallT
  refine okb_app ?_ (dec_ok _).b
  unfold signT; split
  · intro x hx; simp at hx; omega
  · exact Okb.nil
theorem smallT_len {v : Int} (h : v.natAbs < 1000000) : (smallT v).length ≤ 7 := by
  unfold smallT signT
  have := dec_small7 h
  rw [List.length_append]
  split <;> simp <;> omega
theorem exp_small {c : Nat} (hc : c = 101 ∨ c = 69) (v : Int) : expL (c :: smallT v) = some (decide (v < 0), dec v.natAbs, []) := by
  have h0 : dec v.natAbs ≠ [] := ne_of_len (dec_pos _)
  unfold smallT signT
  by_cases h : v < 0
  · rw [decide_eq_true h]; exact exp_down hc (dec_ok _) h0
  · rw [decide_eq_false h]; exact exp_plain hc (dec_ok _) h0
theorem expV_small {neg : Bool} {w f : List Nat} {v : Int} (h : v.natAbs < 1000000) : expV ⟨neg, w, f, decide (v < 0), dec v.natAbs⟩ = v ∧ (expN ⟨neg, w, f, decide (v < 0), dec v.natAbs⟩).length ≤ 6 := by
  obtain ⟨a, b⟩ := expV_dec (p := ⟨neg, w, f, decide (v < 0), dec v.natAbs⟩) rfl h
  refine ⟨?_, b⟩
  rw [a]
  by_cases h0 : v < 0
  · simp only [decide_eq_true h0, if_true]; omega
  · simp only [decide_eq_false h0, Bool.false_eq_true, if_false]; omega
/-- The digits, a fraction of zeros or zeros behind, an exponent. -/
theorem parse_back {neg : Bool} {N : Nat} {e v : Int} {w f : List Nat} {c k : Nat} (hc : c = 101 ∨ c = 69) (hw : w = dec N ++ List.replicate k 48) (hf : ∃ j : Nat, f = List.replicate j 48 ∧ v - (j : Int) + ((j + k : Nat) : Int) = e)
    (h0 : N % 10 ≠ 0 ∨ (N = 0 ∧ k = 0 ∧ neg = false ∧ e = 0)) (hl : (limbs N).length ≤ 90) (hlo : -1200 ≤ e) (hhi : e ≤ 1200) (hv : v.natAbs < 1000000)
    (hlen : (signT neg ++ (w ++ tailT f (c :: smallT v))).length ≤ 2000) : parseN (signT neg ++ (w ++ tailT f (c :: smallT v))) = .inl (neg, N, e) := by
  obtain ⟨j, hf, he⟩ := hf
  have hod := dec_ok N
  have hdp := dec_pos N
  have hwo : Okd w := by rw [hw]; exact hod.append (zeros_ok k)
  have hfo : Okd f := by rw [hf]; exact zeros_ok j
  have hcd : isd c = false ∧ c ≠ 46 := by rcases hc with rfl | rfl <;> decide
  have hwb : ¬ wholeBad w := by
    rcases h0 with h0 | ⟨rfl, rfl, _, _⟩
    · have hne : N ≠ 0 := by intro h; rw [h] at h0; exact h0 rfl
      have hdh := dec_head hne
      have hth : w.head? = (dec N).head? := by
        rw [hw]
        cases hd : dec N with
        | nil => rw [hd] at hdp; simp at hdp
        | cons a b => rfl
      exact good_of_head (ne_of_len (by rw [hw, List.length_append]; omega)) (by rw [hth]; exact hdh)
    · rw [hw]
      rintro (h1 | ⟨h1, _⟩)
      · exact absurd h1 (by decide)
      · exact absurd h1 (by decide)
  have hr := read_form (neg := neg) hwo hwb hfo (e := c :: smallT v) (.inr ⟨c, _, rfl, hcd.1, hcd.2⟩) (exp_small hc v)
  have hval : hval (w ++ f) = N * tenN (j + k) := by
    rw [hw, hf, List.append_assoc, List.replicate_append_replicate, hval_append, hval_zeros, hval_dec, List.length_replicate, Nat.add_comm k j]; rfl
  unfold parseN
  rw [if_neg (by omega), hr]
  simp only
  rcases h0 with h0 | ⟨rfl, rfl, rfl, rfl⟩
  · have hne : N ≠ 0 := by intro h; rw [h] at h0; exact h0 rfl
    obtain ⟨v1, v2⟩ := expV_small (neg := neg) (w := w) (f := f) hv
    have hee : expV ⟨neg, w, f, decide (v < 0), dec v.natAbs⟩ - (f.length : Int) + ((j + k : Nat) : Int) = e := by rw [v1, hf, List.length_replicate]; exact he
    have := number_form (p := ⟨neg, w, f, decide (v < 0), dec v.natAbs⟩) (N := N * tenN (j + k)) (m := N) (j := j + k) hval (Nat.mul_ne_zero hne (tenN_ne _)) v2 rfl h0 hl (by rw [hee]; exact hlo) (by rw [hee]; exact hhi)
    rw [this, hee]
  · have : numberL ⟨false, w, f, decide (v < 0), dec v.natAbs⟩ = some (false, 0, 0) := by
      unfold numberL
      rw [if_pos (by rw [hval, Nat.zero_mul])]
    rw [this]

set_option maxHeartbeats 4000000 in
set_option maxRecDepth 100000 in
theorem text_any (v : Int) (w : World) (hv : -100000 ≤ v) (hv2 : v ≤ 100000) : Calls Tryd.prog 42 #[.int .i64 v] w (TxtBelow (smallT v) w) := by
  obtain ⟨k, hk⟩ : ∃ k, v.natAbs = k := ⟨_, rfl⟩
  have hkb : k < B32 := by rw [B32_eq]; omega
  have hb1 := below_box w #[.int .u32 (k : Int)] 23
  have K := refDigits_any (some ⟨w.heap.size, 0, none⟩) 1 1 [k] (w.alloc (.cells #[.int .u32 (k : Int)] 23)) rfl (Nat.le_refl _) (by decide) (Okl.cons hkb Okl.nil) (alloc_blk w [k]).rd_all
  rw [show val [k] = k by simp [val]] at K
  have KD := Lib.hid K; clear K
  have HB := Lib.hid hb1; clear hb1
  have hds : (txt (dec k)).size ≤ 6 := by rw [txt_size]; exact dec_small7 (by omega)
  have HT : Hid (smallT v = signT (decide (v < 0)) ++ dec k) := by rw [← hk]; exact Lib.hid rfl
  by_cases h0 : v < 0
  · obtain rfl : v = -(k : Int) := by omega
    rw [decide_eq_true h0] at HT
    generalize smallT (-(k : Int)) = S at *
    generalize dec k = D at *
    clear hk
    go_enter Tryd.func42, Tryd.ntmps42
    go_wp2_with fail
    refine KD.out.mono ?_
    rintro r w1 ⟨rfl, hb1⟩
    have HB1 := Lib.hid (below_on HB.out hb1); clear hb1
    go_wp2
    go_ret
    exact ⟨by rw [HT.out, show (⟨#[45]⟩ : ByteArray) = txt [45] from rfl, txt_append]; rfl, HB1.out⟩
  · obtain rfl : v = (k : Int) := by omega
    rw [decide_eq_false h0] at HT
    generalize smallT (k : Int) = S at *
    generalize dec k = D at *
    clear hk
    go_enter Tryd.func42, Tryd.ntmps42
    go_wp2_with fail
    refine KD.out.mono ?_
    rintro r w1 ⟨rfl, hb1⟩
    have HB1 := Lib.hid (below_on HB.out hb1); clear hb1
    go_wp2
    go_ret
    exact ⟨by rw [HT.out]; rfl, HB1.out⟩
end Go.Proofs.YtjieilcegkmfiaaDoor
