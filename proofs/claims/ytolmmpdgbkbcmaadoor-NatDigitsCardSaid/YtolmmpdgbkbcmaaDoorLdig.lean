/- The walk of the law NatDigits. -/
import Derived.Test.YtolmmpdgbkbcmaaDoorLord
namespace Go.Proofs.YtolmmpdgbkbcmaaDoor
open Go.RowKit
set_option linter.unusedVariables false

theorem nums_txt {l : List Nat} (h : Okd l) : nums (txt l) = l := by
  unfold nums txt
  simp only [List.map_map]
  apply List.ext_getElem
  · simp
  · intro i h1 h2
    have hx := h l[i] (List.getElem_mem h2)
    simp only [List.getElem_map, Function.comp_apply, UInt8.toNat_ofNat']
    omega
theorem txt_append (l m : List Nat) : txt l ++ txt m = txt (l ++ m) := by
  apply ByteArray.ext
  simp [txt, ByteArray.data_append]
theorem zeros_ok (k : Nat) : Okd (List.replicate k 48) := by
  intro x hx; rw [List.mem_replicate] at hx; omega
theorem Okd.append {l m : List Nat} (h : Okd l) (k : Okd m) : Okd (l ++ m) := by
  intro y hy; rcases List.mem_append.1 hy with hy | hy
  · exact h y hy
  · exact k y hy
theorem hval_zeros (k : Nat) : hval (List.replicate k 48) = 0 := by
  induction k with
  | zero => rfl
  | succ k ih => rw [List.replicate_succ', hval_snoc, ih]
theorem hval_dec (N : Nat) : hval (dec N) = N := dval_dec N
theorem hval_ahead (N k : Nat) : hval (List.replicate k 48 ++ dec N) = N := by rw [hval_append, hval_zeros, hval_dec]; simp
theorem hval_behind (N k : Nat) : hval (dec N ++ List.replicate k 48) = N * tenN k := by rw [hval_append, hval_zeros, hval_dec, List.length_replicate]; rfl
theorem ten_le (n : Nat) : tenN n ≤ B32 ^ n := Nat.pow_le_pow_left (by decide) n
theorem dec_len25 {N : Nat} (h : N < B32 ^ 25) : (dec N).length ≤ 250 := by
  refine dec_len_le (by omega) (Nat.lt_of_lt_of_le h ?_)
  have e : tenN 250 = (10 ^ 10) ^ 25 := by unfold tenN; rw [← Nat.pow_mul]
  rw [e]
  exact Nat.pow_le_pow_left (by decide) 25

theorem parse_c {w0 w : World} {l : List Ent} (h : Ctx w0 w l) {d : List Nat} (hd : Okd d) (h1 : 0 < d.length) (M : Nat) (h2 : d.length ≤ M) (hM : M ≤ 2000) (N : Nat) (hN : hval d = N) :
    Calls Tryd.prog 17 #[.string (txt d)] w fun e w' => ∃ v, e = .returned (.tuple #[v, .bool true]) ∧ Ctx w0 w' (⟨v, M, N, limbs N⟩ :: l) := by
  refine (parse_any (txt d) w).mono ?_
  rw [nums_txt hd]
  rintro e w' ⟨⟨_, _, _, v, rfl, ho⟩ | ⟨hno, _⟩, hb⟩
  · subst hN
    exact ⟨v, rfl, (h.step hb).push (ent_own ho (limbs_length_le (Nat.lt_of_lt_of_le (hval_lt hd) (Nat.le_trans (ten_le _) (Nat.pow_le_pow_right (by decide) h2)))))⟩
  · exact absurd ⟨h1, Nat.le_trans h2 hM, hd⟩ hno

theorem tenN_ne (n : Nat) : tenN n ≠ 0 := Nat.pos_iff_ne_zero.1 (Nat.pow_pos (by decide))

def ZerosRel (k : Nat) (w : World) (z i : Value) (wr : World) : Prop := ∃ j : Nat, j ≤ k ∧ i = .int .i64 (j : Int) ∧ z = .string (txt (List.replicate j 48)) ∧ ∃ q, wr = w.drewN q

set_option maxHeartbeats 4000000 in
set_option maxRecDepth 100000 in
theorem natDigits_walk (ad : Option Addr) (n cap : Nat) (xs : List Nat) (k0 : Int) (w : World)
    (hn : xs.length = n) (hcap : n ≤ cap) (ho : Okl xs) (hr : Rd w ad xs) (hk0 : -9223372036854775808 ≤ k0 ∧ k0 ≤ 9223372036854775807) :
    Calls Tryd.prog 6 #[.slice ad n cap, .int .i64 k0] w fun e w' => e = .returned (.bool true) ∧ Below w.heap.size w w' := by
  have HK := Lib.hid hk0
  clear hk0
  by_cases hf : n ≤ 25
  · have h0 := Lib.hid ((Ctx.begin w).push (ent_arg hn hcap ho hr hf rfl))
    have hlt := val_lt ho
    have hlt2 := Nat.lt_of_lt_of_le hlt (Nat.pow_le_pow_right (show 0 < B32 by decide) (show xs.length ≤ 25 by omega))
    have hdl := dec_len25 hlt2
    clear hn hcap ho hr hlt hlt2
    generalize ha : val xs = N at *
    clear ha
    have hdp := dec_pos N
    have HO := Lib.hid (dec_ok N)
    have HV := Lib.hid (hval_dec N)
    have HA := Lib.hid (hval_ahead N)
    have HB := Lib.hid (hval_behind N)
    generalize hde : dec N = d at *
    have HE := Lib.hid hde; clear hde
    have KP := Lib.hid (fun w1 => place_any k0 30 w1 HK.out ⟨by omega, by omega⟩)
    have hp1 := Int.emod_nonneg k0 (show (30 : Int) ≠ 0 by decide)
    have hp2 := Int.emod_lt_of_pos k0 (show (0 : Int) < 30 by decide)
    generalize k0 % 30 = p at *
    obtain ⟨k, rfl⟩ : ∃ k : Nat, p = (k : Int) := ⟨p.toNat, by omega⟩
    have hkk : k < 30 := by omega
    clear hp1 hp2
    go_enter Tryd.func6, Tryd.ntmps6
    go_wp2_with fail
    refine (KP.out _).mono ?_
    rintro e w' ⟨rfl, rfl⟩
    go_wp2_with fail
    refine (digits_c h0.out 0 rfl (by decide)).mono ?_
    rintro e w1 ⟨rfl, h1⟩
    rw [HE.out]
    have H1 := Lib.hid h1; clear h1
    go_wp2_with fail
    refine (parse_c H1.out HO.out hdp 250 hdl (by decide) N HV.out).mono ?_
    rintro e w2 ⟨v2, rfl, h2⟩
    have H2 := Lib.hid h2; clear h2
    go_wp2_with fail
    go_loopw [9, 10] (fun z i wr => ZerosRel k w2 z i wr) (fun _ i _ => k - (intOf i).toNat)
    case atStart => exact ⟨0, Nat.zero_le _, rfl, rfl, 0, rfl⟩
    case round =>
      obtain ⟨j, hj, rfl, rfl, q, rfl⟩ := hrel
      by_cases hjk : j < k
      · have hjk' : (j : Int) < (k : Int) := by omega
        have hsz : (txt (List.replicate j 48)).size = j := by rw [txt_size, List.length_replicate]
        go_wp2_with fail
        go_roundw
        case rel => exact ⟨j + 1, hjk, by go_num, by rw [show (ByteArray.mk #[48]) = txt [48] from rfl, txt_append, ← List.replicate_succ'], q, rfl⟩
        case measure => simp [intOf]; omega
      · have hjk' : ¬ ((j : Int) < (k : Int)) := by omega
        obtain rfl : j = k := by omega
        have H3 := Lib.hid (H2.out.drewN q); clear H2
        generalize w2.drewN q = w3 at *
        have hz := Lib.hid (zeros_ok j)
        have hsd : (txt d).size ≤ 250 := by rw [txt_size]; exact hdl
        have hsZ : (txt (List.replicate j 48)).size ≤ 30 := by rw [txt_size, List.length_replicate]; omega
        have hlZ : (List.replicate j 48).length ≤ 30 := by rw [List.length_replicate]; omega
        have HAj := Lib.hid (HA.out j)
        have HBj := Lib.hid (HB.out j)
        clear HA HB
        generalize hZ : List.replicate j 48 = Z at *
        clear hZ
        go_wp2_with fail
        rw [txt_append]
        refine (parse_c H3.out (hz.out.append HO.out) (by simp; omega) 280 (by simp; omega) (by decide) N HAj.out).mono ?_
        rintro e w4 ⟨v4, rfl, h4⟩
        have H4 := Lib.hid h4; clear h4
        go_wp2_with fail
        rw [txt_append]
        refine (parse_c H4.out (HO.out.append hz.out) (by simp; omega) 280 (by simp; omega) (by decide) _ HBj.out).mono ?_
        rintro e w5 ⟨v5, rfl, h5⟩
        have H5 := Lib.hid h5; clear h5
        go_wp2_with fail
        refine (trim_c H5.out 0 rfl (by decide)).mono ?_
        rintro e w6 ⟨t, m, km, rfl, q1, q2, q3, q4, h6⟩
        have H6 := Lib.hid h6; clear h6
        go_wp2_with fail
        refine (trim_c H6.out 4 rfl (by decide)).mono ?_
        rintro e w7 ⟨u, m', ki, rfl, p1, p2, p3, p4, h7⟩
        have hend : m = m' ∧ (N ≠ 0 → km = ki + j ∧ (limbs m').length ≠ 0) ∧ (N = 0 → m' = 0 ∧ km = 0 ∧ ki = 0) := by
          by_cases hN : N = 0
          · subst hN
            have e1 : m' = 0 := by
              rcases Nat.mul_eq_zero.1 p1.symm with h | h
              · exact h
              · exact absurd h (tenN_ne _)
            have e2 : m = 0 := by
              rw [Nat.zero_mul] at q1
              rcases Nat.mul_eq_zero.1 q1.symm with h | h
              · exact h
              · exact absurd h (tenN_ne _)
            exact ⟨by omega, fun h => absurd rfl h, fun _ => ⟨e1, q2 (by simp), p2 rfl⟩⟩
          · have hne : N * tenN j ≠ 0 := Nat.mul_ne_zero hN (tenN_ne _)
            have h1 : m * tenN km = m' * tenN (ki + j) := by
              rw [← q1, p1, Nat.mul_assoc]
              unfold tenN
              rw [Nat.pow_add]
            obtain ⟨r1, r2⟩ := ten_unique h1 (q3 hne) (p3 hN)
            exact ⟨r1, fun _ => ⟨r2, fun h0 => p3 hN (by rw [(limbs_nil_iff m').1 (List.eq_nil_of_length_eq_zero h0)])⟩, fun h => absurd h hN⟩
        obtain ⟨rfl, e1, e2⟩ := hend
        have H7 := Lib.hid h7; clear h7 q1 q2 q3 p1 p2 p3
        have HE1 := Lib.hid e1
        have HE2 := Lib.hid e2
        clear e1 e2
        go_wp2_with fail
        refine (cmp_c H7.out 4 5 rfl rfl (by decide) (by decide)).mono ?_
        rintro e w8 ⟨rfl, h8⟩
        rw [cmpN_eq]
        have H8 := Lib.hid h8; clear h8
        go_wp2_with fail
        refine (same_c H8.out 4 3 rfl rfl (by decide)).mono ?_
        rintro e w9 ⟨rfl, h9⟩
        have H9 := Lib.hid h9; clear h9
        go_wp2_with fail
        refine (same_c H9.out 1 0 rfl rfl (by decide)).mono ?_
        rintro e w10 ⟨rfl, h10⟩
        have hview := h10.get 0 rfl
        have H10 := Lib.hid h10; clear h10
        have HT := Lib.hid (show N * 10 ^ j = N * tenN j from rfl)
        obtain ⟨adu, capu, rfl, _⟩ := hview
        by_cases hN : N = 0
        · obtain ⟨rfl, rfl, rfl⟩ := HE2.out hN
          rw [show (limbs 0).length = 0 by rw [limbs_zero]; rfl] at *
          go_wp2_with fail
          refine (pow_c H10.out (b := 10) (by decide) _ j (cutP_nat (by omega))).mono ?_
          rintro e w11 ⟨v11, rfl, h11⟩
          have H11 := Lib.hid h11; clear h11
          go_wp2_with fail
          refine (mul_c H11.out 5 0 rfl rfl (by decide) (by omega)).mono ?_
          rintro e w12 ⟨v12, rfl, h12⟩
          have H12 := Lib.hid h12; clear h12
          go_wp2_with fail
          refine (cmp_c H12.out 4 0 rfl rfl (by decide) (by omega)).mono ?_
          rintro e w13 ⟨rfl, h13⟩
          rw [HT.out, cmpN_eq]
          go_wp2_with fail
          refine (awake_c h13).mono ?_
          rintro e w14 ⟨rfl, hb14⟩
          go_wp2
          go_ret
          exact ⟨rfl, hb14⟩
        · obtain ⟨rfl, hL⟩ := HE1.out hN
          have hLb : (((limbs m).length : Int) == 0) = false := by rw [beq_eq_false_iff_ne]; omega
          go_wp2_with fail
          refine (pow_c H10.out (b := 10) (by decide) _ j (cutP_nat (by omega))).mono ?_
          rintro e w11 ⟨v11, rfl, h11⟩
          have H11 := Lib.hid h11; clear h11
          go_wp2_with fail
          refine (mul_c H11.out 5 0 rfl rfl (by decide) (by omega)).mono ?_
          rintro e w12 ⟨v12, rfl, h12⟩
          have H12 := Lib.hid h12; clear h12
          go_wp2_with fail
          refine (cmp_c H12.out 4 0 rfl rfl (by decide) (by omega)).mono ?_
          rintro e w13 ⟨rfl, h13⟩
          rw [HT.out, cmpN_eq]
          go_wp2_with fail
          refine (awake_c h13).mono ?_
          rintro e w14 ⟨rfl, hb14⟩
          go_wp2
          go_ret
          exact ⟨rfl, hb14⟩
  · go_enter Tryd.func6, Tryd.ntmps6
    go_wp2_with fail
    refine (awake_any _).mono ?_
    rintro e w2 ⟨rfl, hb2⟩
    go_wp2
    go_ret
    exact ⟨rfl, hb2⟩
end Go.Proofs.YtolmmpdgbkbcmaaDoor
