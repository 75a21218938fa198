/- The walk of layer 3's reference odd. -/
import Derived.Test.YtokppjfaihkkcaaDoorGc
namespace Go.Proofs.YtokppjfaihkkcaaDoor
open Go.RowKit Go.Sort
set_option linter.unusedVariables false
set_option linter.unusedSimpArgs false

theorem words_val {P : Nat} (hP : P < 18446744073709551616) (h0 : P ≠ 0) : (limbs P).length = (if P < 4294967296 then 1 else 2) ∧ (limbs P).getD 0 0 = P % 4294967296 ∧ (limbs P).getD 1 0 = P / 4294967296 := by
  have hm := val_mod (limbs P) (limbs_ok P)
  rw [val_limbs] at hm
  have hle : (limbs P).length ≤ 2 := limbs_length_le (by rw [B32_eq]; omega)
  have hv := val_limbs P
  have ho := limbs_ok P
  have hn0 : limbs P ≠ [] := fun h => h0 ((limbs_nil_iff P).1 h)
  have hle1 : P < 4294967296 → (limbs P).length ≤ 1 := fun h => limbs_length_le (by rw [B32_eq]; omega)
  have hB : B32 = 4294967296 := B32_eq
  match hl : limbs P, hn0 with
  | [], h => exact absurd rfl h
  | [a], _ =>
    rw [hl] at hv hm ho
    have ha : a < B32 := ho a (by simp)
    simp [val] at hv
    subst hv
    rw [if_pos (by omega)]
    exact ⟨rfl, by simp; omega, by simp; omega⟩
  | [a, b], _ =>
    rw [hl] at hv hm ho hle1
    have ha : a < B32 := ho a (by simp)
    have hb : b < B32 := ho b (by simp)
    simp [val, hB] at hv
    have : ¬ P < 4294967296 := fun h => by have := hle1 h; simp at this
    rw [if_neg this]
    exact ⟨rfl, by simp; omega, by simp; omega⟩
  | a :: b :: c :: t, _ => rw [hl] at hle; simp at hle

theorem fives_eq (M : Nat) (E : Int) : fives M E = if M * 5 ^ E.toNat % 5 ^ (-E).toNat = 0 then some (M * 5 ^ E.toNat / 5 ^ (-E).toNat) else none := by
  unfold fives
  by_cases h : 0 ≤ E
  · rw [if_pos h, show (-E).toNat = 0 by omega, Nat.pow_zero, Nat.mod_one, if_pos rfl, Nat.div_one]
  · rw [if_neg h, show E.toNat = 0 by omega, Nat.pow_zero, Nat.mul_one]
theorem len_two (N : Nat) : (2 < (limbs N).length ↔ ¬ N < 18446744073709551616) := by
  constructor
  · intro h h1
    have : (limbs N).length ≤ 2 := limbs_length_le (by rw [B32_eq]; omega)
    omega
  · intro h
    rcases Nat.lt_or_ge 2 (limbs N).length with h1 | h1
    · exact h1
    · exfalso
      have h2 := val_lt (limbs_ok N)
      rw [val_limbs] at h2
      have h3 : B32 ^ (limbs N).length ≤ B32 ^ 2 := Nat.pow_le_pow_right (by rw [B32_eq]; decide) h1
      rw [show B32 ^ 2 = 18446744073709551616 by rw [B32_eq]] at h3
      omega

set_option maxHeartbeats 16000000 in
set_option maxRecDepth 100000 in
theorem rodd_any {w0 w : World} {l : List Ent} (h : Ctx w0 w l) (i : Nat) {ad : Option Addr} {n cap L M : Nat} {xs : List Nat} (hi : l[i]? = some ⟨.slice ad n cap, L, M, xs⟩) (hL : L ≤ 2000) (ng : Bool) (E : Int) (hc : chkB ng xs E = true) (hM0 : M ≠ 0) :
    Calls Tryd.prog 51 #[.agg #[.bool ng, .slice ad n cap, .int .i64 E]] w (OdPost w0 l M E) := by
  obtain ⟨b90, blo, bhi⟩ := chkB_bounds hc
  have hv := h.get i hi
  have hxs : xs = limbs M := by
    obtain ⟨_, _, _, _, _, q4, _, q6⟩ := hv
    rw [← q6]; exact (chkB_limbs q4 hc).symm
  have hMB : M < B32 ^ 90 := by
    obtain ⟨_, _, _, _, _, q4, _, q6⟩ := hv
    rw [← q6]
    exact Nat.lt_of_lt_of_le (val_lt q4) (Nat.pow_le_pow_right (by rw [B32_eq]; decide) b90)
  subst hxs
  have hb1 := below_box w #[.bool ng, .slice ad n cap, .int .i64 E] 25
  have hC1 := h.step hb1
  have B1 := Lib.hid (bx_new w ng (.slice ad n cap) E)
  have HMB := Lib.hid hMB
  have hent : Ctx w0 (w.alloc (.cells #[.bool ng, .slice ad n cap, .int .i64 E] 25)) (⟨.slice ad n cap, 2000, M, limbs M⟩ :: l) := by
    obtain ⟨q1, q2, q3, q4, q5, q6, q7, q8⟩ := hC1.get i hi
    exact hC1.push ⟨q1, q2, q3, q4, Nat.le_trans q5 hL, q6, q7, q8⟩
  have HENT := Lib.hid hent
  clear hv hMB hb1 hC1 hent hi h hc
  go_enter Tryd.func51, Tryd.ntmps51
  obtain ⟨x1, x2, x3, x4⟩ := B1.out
  go_wp2_with fail
  clear x1 x2 x3 x4
  go_loopw [5, 7] (fun m k wr => OUp w0 l M E w.heap.size ng (.slice ad n cap) m k wr) (fun _ k _ => E.toNat - (intOf k).toNat)
  case atStart => exact ⟨0, .inr rfl, rfl, by rw [Nat.pow_zero, Nat.mul_one]; exact HENT.out, B1.out⟩
  case round =>
    obtain ⟨i, hi, rfl, hC, hB⟩ := hrel
    have HC := Lib.hid hC; have HB := Lib.hid hB
    clear hC hB
    obtain ⟨x1, x2, x3, x4⟩ := HB.out
    by_cases hlt : (i : Int) < E
    · have hB2 := below_box wr #[.int .u32 5] 54
      have HL := Lib.hid (HC.out.lits1 (Okl.cons (show 5 < B32 by rw [B32_eq]; decide) Okl.nil) (N := 5) (by simp [val]) 1 rfl #[.int .u32 5] rfl)
      have hfl := five_len HMB.out (show i ≤ 1200 by omega)
      have hfl2 := five_len HMB.out (show i + 1 ≤ 1200 by omega)
      obtain ⟨a1, c1, rfl, q2, q3, q4, q5, q6⟩ := HL.out.get 1 rfl
      obtain ⟨a2, c2, hv2, r2, r3, r4, r5, r6⟩ := HL.out.get 0 rfl
      simp only [Value.slice.injEq] at hv2
      obtain ⟨rfl, hone, rfl⟩ := hv2
      clear hone
      have KMU := Lib.hid (refMul_any a1 _ c1 _ _ 1 1 [5] _ rfl q2 (by omega) q4 q5 rfl r2 (by decide) r4 r5)
      rw [q6, show val [5] = 5 by simp [val]] at KMU
      have HB2 := Lib.hid (HB.out.step hB2)
      have HN2 := Lib.hid (show M * 5 ^ i * 5 = M * 5 ^ (i + 1) by rw [Nat.pow_succ, Nat.mul_assoc])
      rw [HN2.out] at KMU
      have HFL := Lib.hid hfl2
      clear q2 q3 q4 q5 q6 r2 r3 r4 r5 r6 hfl hfl2 hB2
      generalize (limbs (M * 5 ^ i)).length = ni at *
      go_wp2_with fail
      refine KMU.out.mono ?_
      rintro r w2 ⟨v2, rfl, ho2, hb2⟩
      have HR := Lib.hid (((HL.out.step hb2).drop1.drop1).push (ent_own ho2 HFL.out))
      have HB3 := Lib.hid (HB2.out.step hb2)
      clear ho2 hb2 x1 x2 x3 x4 KMU HL HB2
      go_wp2_with fail
      go_roundw
      case rel => exact ⟨i + 1, .inl (by omega), by go_num, HR.out, HB3.out⟩
      case measure => simp [intOf]; omega
    · have hiE : E.toNat = i := by omega
      have HFE := Lib.hid (fives_eq M E)
      rw [hiE] at HFE
      have HPN := Lib.hid (fun P (hp : fives M E = some P) => fives_ne hM0 hp)
      have HIE : Hid (E < 0 → i = 0) := fun hneg => by omega
      clear hi
      generalize M * 5 ^ i = M' at *
      clear hiE
      go_wp2_with fail
      clear x1 x2 x3 x4
      have HCC := Lib.hid HC.out
      go_loopw [5, 8] (fun m k wr => ODn w0 l M' E w.heap.size ng (.slice ad n cap) m k wr) (fun _ k _ => (-E).toNat - (intOf k).toNat)
      case atStart => exact ⟨0, .inr rfl, rfl, by rw [Nat.pow_zero, Nat.mod_one], by rw [Nat.pow_zero, Nat.div_one]; exact HCC.out, HB.out⟩
      case round =>
        obtain ⟨j, hj, rfl, hmod, hCj, hBj⟩ := hrel
        have HCJ := Lib.hid hCj; have HBJ := Lib.hid hBj
        clear hCj hBj HB HC HCC
        obtain ⟨x1, x2, x3, x4⟩ := HBJ.out
        by_cases hlt2 : (j : Int) < -E
        · obtain ⟨a1, c1, rfl, q2, q3, q4, q5, q6⟩ := HCJ.out.get 0 rfl
          have KSM := Lib.hid (refSmall_any a1 _ c1 _ 5 _ rfl q2 (by omega) q4 q5 (by rw [B32_eq]; decide) (by decide))
          rw [val_limbs] at KSM
          obtain ⟨d1, d2, d3⟩ := div_step hmod
          unfold SmallPost at KSM
          rw [d1] at KSM
          have hle : (limbs (M' / 5 ^ (j + 1))).length ≤ 2000 := by
            refine len_leq q4 ?_ q3
            rw [val_limbs, ← d1]
            exact Nat.div_le_self _ _
          have HLE := Lib.hid hle
          have hrb : M' / 5 ^ j % 5 < 5 := Nat.mod_lt _ (by decide)
          have HD2 := Lib.hid d2; have HD3 := Lib.hid d3
          have HMOD := Lib.hid hmod
          clear q2 q3 q4 q5 q6 hle d1 d2 d3 hmod
          generalize hrr : M' / 5 ^ j % 5 = rr at *
          clear hrr
          generalize (limbs (M' / 5 ^ j)).length = nj at *
          go_wp2_with fail
          refine KSM.out.mono ?_
          rintro r w2 ⟨v2, rfl, ho2, hb2⟩
          have HR := Lib.hid (((HCJ.out.step hb2).drop1).push (ent_own ho2 HLE.out))
          have HB3 := Lib.hid (HBJ.out.step hb2)
          clear ho2 hb2 x1 x2 x3 x4 KSM
          by_cases hr0 : rr = 0
          · have HR0 := Lib.hid hr0
            subst hr0
            go_wp2_with fail
            go_roundw
            case rel => exact ⟨j + 1, .inl (by omega), by go_num, HD2.out (by first | trivial | rfl), HR.out, HB3.out⟩
            case measure => simp [intOf]; omega
          · have hrz : ((rr : Int) == 0) = false := by rw [beq_eq_false_iff_ne]; omega
            have hnone : fives M E = none := by
              rw [HFE.out, if_neg]
              intro h1
              exact hr0 (HD3.out (mod_more h1 (by omega)))
            have HA : Hid (oddA M E = .tuple #[.int .u64 0, .int .i64 0, .bool false]) := by show _ = _; unfold oddA; rw [hnone]
            have HFIN := Lib.hid HR.out.drop1
            clear hnone
            go_wp2_with fail
            go_ret3
            exact ⟨by rw [HA.out]; rfl, HFIN.out⟩
        · have hjE : (-E).toNat = j := by omega
          rw [hjE] at HFE
          have hsome : fives M E = some (M' / 5 ^ j) := by rw [HFE.out, if_pos hmod]
          have hP0 := HPN.out _ hsome
          have KHV := Lib.hid (rhalves_any HCJ.out 0 rfl (by decide) hP0)
          have HA : Hid (oddA M E = if odd (M' / 5 ^ j) < 18446744073709551616 then .tuple #[.int .u64 ((odd (M' / 5 ^ j) : Nat) : Int), .int .i64 (E + (tz (M' / 5 ^ j) : Int)), .bool true] else .tuple #[.int .u64 0, .int .i64 0, .bool false]) := by show _ = _; unfold oddA; rw [hsome]
          have ho0 := odd_pos hP0
          obtain ⟨KK, hKK⟩ : ∃ KK, KK = 64000 := ⟨_, rfl⟩
          have htz : tz (M' / 5 ^ j) < KK := by
            obtain ⟨_, _, _, _, q3, q4, _, _⟩ := HCJ.out.get 0 rfl
            have h1 := val_lt q4
            rw [val_limbs] at h1
            have h2 : B32 ^ (limbs (M' / 5 ^ j)).length ≤ 2 ^ KK := by
              rw [B32_eq, show (4294967296 : Nat) = 2 ^ 32 from rfl, ← Nat.pow_mul]
              exact Nat.pow_le_pow_right (by decide) (by omega)
            have h3 := (tz_spec hP0).1
            have h4 : 2 ^ tz (M' / 5 ^ j) ≤ M' / 5 ^ j := by
              conv => rhs; rw [h3]
              exact Nat.le_mul_of_pos_left _ ho0
            exact two_lt_iff.1 (Nat.lt_of_le_of_lt h4 (Nat.lt_of_lt_of_le h1 h2))
          have htz2 : tz (M' / 5 ^ j) < 64000 := by omega
          clear hsome hjE HFE HPN hmod hP0 htz hKK
          generalize M' / 5 ^ j = P at *
          go_wp2_with fail
          clear x1 x2 x3 x4
          refine KHV.out.mono ?_
          rintro r w2 ⟨v2, rfl, h2⟩
          obtain ⟨a2, c2, rfl, q2, q3, q4, q5, q6⟩ := h2.get 0 rfl
          have HFIN := Lib.hid h2.drop1.drop1
          have hl2 := len_two (odd P)
          by_cases hbig : odd P < 18446744073709551616
          · obtain ⟨z1, z2, z3⟩ := words_val hbig (by omega)
            have HA2 := Lib.hid (HA.out.trans (if_pos hbig))
            have hlz : ¬ (2 : Int) < ((limbs (odd P)).length : Int) := by rw [z1]; split <;> omega
            obtain ⟨b, o, rfl, hbl, hc0⟩ := q5 0 (by rw [z1]; split <;> omega)
            rw [z2, Nat.add_zero] at hc0
            by_cases hs : odd P < 4294967296
            · rw [if_pos hs] at z1
              have e0 : odd P % 4294967296 = odd P := Nat.mod_eq_of_lt hs
              rw [e0] at hc0
              rw [z1] at *
              clear q2 q3 q4 q5 q6 hl2 hlz HA z1 z2 z3 e0
              generalize odd P = op at *
              go_wp2_with fail
              go_ret3
              exact ⟨by rw [HA2.out]; rfl, HFIN.out⟩
            · rw [if_neg hs] at z1
              have hc1 := Rd.at q5 1 (by rw [z1]; omega)
              rw [z3] at hc1
              have e0 : (odd P % 4294967296 : Nat) + (odd P / 4294967296) * 4294967296 = odd P := by omega
              have x0b : odd P % 4294967296 < 4294967296 := Nat.mod_lt _ (by decide)
              have x1b : odd P / 4294967296 < 4294967296 := by omega
              rw [z1] at *
              clear q2 q3 q4 q5 q6 hl2 hlz HA z1 z2 z3 hs
              generalize odd P % 4294967296 = y0 at *
              generalize odd P / 4294967296 = y1 at *
              have e1 : (y0 : Int) + (y1 : Int) * 4294967296 = ((odd P : Nat) : Int) := by omega
              generalize odd P = op at *
              clear e0
              go_wp2_with fail
              go_ret3
              exact ⟨by rw [HA2.out, ← e1]; rfl, HFIN.out⟩
          · have hlen : 2 < (limbs (odd P)).length := hl2.2 hbig
            have hlz : (2 : Int) < ((limbs (odd P)).length : Int) := by omega
            have HA2 := Lib.hid (HA.out.trans (if_neg hbig))
            clear q2 q3 q4 q5 q6 hl2 hlen HA
            generalize (limbs (odd P)).length = no at *
            go_wp2_with fail
            go_ret3
            exact ⟨by rw [HA2.out]; rfl, HFIN.out⟩

set_option maxHeartbeats 2000000 in
theorem ris_yes (neg : Bool) (ad : Option Addr) (n cap : Nat) (xs : List Nat) (e : Int) (w : World) (hn : xs.length = n) (hcap : n ≤ cap) (hm : n ≤ 100000000) (ho : Okl xs) (hr : Rd w ad xs) (h : chkB neg xs e = true) :
    Calls Tryd.prog 50 #[.agg #[.bool neg, .slice ad n cap, .int .i64 e]] w (NumBelow neg (.slice ad n cap) e w) := by
  have hbl : Below w.heap.size w ((w.alloc (.cells #[.bool neg, .slice ad n cap, .int .i64 e] 25)).alloc (.cells #[.bool false, .slice none 0 0, .int .i64 0] 25)) := ((Below.refl _ _).alloc (Nat.le_refl _) _).alloc (by simp) _
  have HB := Lib.hid hbl
  have K := Lib.hid (refCheck_any neg ad n cap xs e _ hn hcap hm ho (hr.below hbl))
  clear hbl
  have H := Lib.hid h; clear h
  have HN := Lib.hid hn; clear hn
  go_enter Tryd.func50, Tryd.ntmps50
  go_wp2_with fail
  refine K.out.mono ?_
  rintro r w' ⟨rfl, hb⟩
  rw [H.out]
  obtain ⟨hc, hf⟩ := bcell hb
  have hz : w.heap.size + 1 < w'.heap.size := by have := hb.size; simp at this; omega
  have HB2 := Lib.hid hb; clear hb
  go_wp2
  have HB3 := HB.out.trans (HB2.out.mono (by simp; omega))
  exact bodyPost_ret (v := .agg #[.bool neg, .slice ad n cap, .int .i64 e]) (by simp [results, Tryd.results50, go_sem, hc, hf, hz]) rfl ⟨rfl, ((HB3.setCell (by simp) _).setCell (by simp) _).setCell (by simp) _⟩
set_option maxHeartbeats 2000000 in
theorem ris_no (neg : Bool) (ad : Option Addr) (n cap : Nat) (xs : List Nat) (e : Int) (w : World) (hn : xs.length = n) (hcap : n ≤ cap) (hm : n ≤ 100000000) (ho : Okl xs) (hr : Rd w ad xs) (h : chkB neg xs e = false) :
    Calls Tryd.prog 50 #[.agg #[.bool neg, .slice ad n cap, .int .i64 e]] w (NumBelow false (.slice none 0 0) 0 w) := by
  have hbl : Below w.heap.size w ((w.alloc (.cells #[.bool neg, .slice ad n cap, .int .i64 e] 25)).alloc (.cells #[.bool false, .slice none 0 0, .int .i64 0] 25)) := ((Below.refl _ _).alloc (Nat.le_refl _) _).alloc (by simp) _
  have HB := Lib.hid hbl
  have K := Lib.hid (refCheck_any neg ad n cap xs e _ hn hcap hm ho (hr.below hbl))
  clear hbl
  have H := Lib.hid h; clear h
  have HN := Lib.hid hn; clear hn
  go_enter Tryd.func50, Tryd.ntmps50
  go_wp2_with fail
  refine K.out.mono ?_
  rintro r w' ⟨rfl, hb⟩
  rw [H.out]
  obtain ⟨hc, hf⟩ := bcell hb
  have hz : w.heap.size + 1 < w'.heap.size := by have := hb.size; simp at this; omega
  have HB2 := Lib.hid hb; clear hb
  go_wp2
  have HB3 := HB.out.trans (HB2.out.mono (by simp; omega))
  exact bodyPost_ret (v := .agg #[.bool false, .slice none 0 0, .int .i64 0]) (by simp [results, Tryd.results50, go_sem, hc, hf, hz]) rfl ⟨rfl, ((HB3.setCell (by simp) _).setCell (by simp) _).setCell (by simp) _⟩

theorem join_loop {e f o j : Nat} {t : Int} (hl : Lay e f) (h0 : o ≠ 0) (h64 : o < 2 ^ 64) (h1 : j = 0 ∨ (o * 2 ^ j < 2 ^ (f + 1) ∧ leastF e f ≤ t - (j : Int))) (h2 : 2 ^ f ≤ o * 2 ^ j ∨ t - (j : Int) ≤ leastF e f) :
    joinF e f o t = if 2 ^ (f + 1) ≤ o * 2 ^ j ∨ t - (j : Int) < leastF e f then none else
      if 2 ^ f ≤ o * 2 ^ j then (if t - (j : Int) - leastF e f + 1 ≥ 2 ^ e - 1 then none else some ((t - (j : Int) - leastF e f + 1).toNat * 2 ^ f + (o * 2 ^ j - 2 ^ f))) else some (o * 2 ^ j) := by
  obtain ⟨l1, l2, l3⟩ := lenB_bounds h0 h64
  have hs1 := fun (b : Nat) => (len_scaled (a := 0) (b := b) (d := j) l1 l2 l3).1
  have hs2 := fun (a : Nat) => (len_scaled (a := a) (b := 0) (d := j) l1 l2 l3).2.1
  have f1 := hs1 f
  have f2 := hs1 (f + 1)
  have f3 := hs2 f
  have f4 := hs2 (f + 1)
  clear hs1 hs2 l2 l3
  have hG : (2 : Int) ^ e = 2 * 2 ^ (e - 1) := by rcases hl with ⟨rfl, rfl⟩ | ⟨rfl, rfl⟩ | ⟨rfl, rfl⟩ <;> decide
  have hle : leastF e f = 2 - 2 ^ (e - 1) - (f : Int) := rfl
  have hGp : (0 : Int) < 2 ^ (e - 1) := by rcases hl with ⟨rfl, rfl⟩ | ⟨rfl, rfl⟩ | ⟨rfl, rfl⟩ <;> decide
  unfold joinF
  simp only []
  generalize lenB o = L at *
  generalize hA : o * 2 ^ j = A at *
  rw [hG]
  generalize (2 : Int) ^ (e - 1) = G at *
  generalize leastF e f = least at *
  by_cases c1 : 2 ^ (f + 1) ≤ A ∨ t - (j : Int) < least
  · rw [if_pos c1, if_pos]
    right
    rcases c1 with c1 | c1
    · have := f4 c1; omega
    · omega
  · rw [if_neg c1]
    have c1a : A < 2 ^ (f + 1) := by omega
    have g2 := f2 c1a
    by_cases c2 : 2 ^ f ≤ A
    · rw [if_pos c2]
      have g3 := f3 c2
      have hp : max (t + (L : Int) - 1 - (f : Int)) least = t - (j : Int) := by omega
      rw [hp]
      by_cases c3 : t - (j : Int) - least + 1 ≥ 2 * G - 1
      · rw [if_pos c3, if_pos (by left; omega)]
      · rw [if_neg c3, if_neg (by omega)]
        rw [show (t - (t - (j : Int))).toNat = j by omega, hA]
        congr 1
        rw [show (t - (j : Int) - least + 1).toNat = (t - (j : Int) - least).toNat + 1 by omega, Nat.add_mul]
        omega
    · rw [if_neg c2]
      have g1 := f1 (by omega)
      have hp : max (t + (L : Int) - 1 - (f : Int)) least = least := by omega
      rw [hp, if_neg (by omega)]
      rw [show (t - least).toNat = j by omega, hA, show (least - least).toNat = 0 by omega]
      simp
end Go.Proofs.YtokppjfaihkkcaaDoor
