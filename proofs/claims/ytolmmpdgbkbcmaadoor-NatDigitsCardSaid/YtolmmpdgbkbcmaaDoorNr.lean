/- The walk of Digits. -/
import Derived.Test.YtolmmpdgbkbcmaaDoorNq
namespace Go.Proofs.YtolmmpdgbkbcmaaDoor
open Go.RowKit
set_option linter.unusedVariables false

theorem Own.kept {B : Nat} {w w' : World} {v : Value} {xs : List Nat} (h : Own B w v xs) (hk : ∀ k, v.ownBlock = some k → w'.heap[k]? = w.heap[k]?) : Own B w' v xs := by
  obtain ⟨ho, h | ⟨g, cap, r, e, hg, hb, hc⟩⟩ := h
  · exact ⟨ho, .inl h⟩
  · exact ⟨ho, .inr ⟨g, cap, r, e, hg, by unfold Blk; rw [hk g (by rw [e]; rfl)]; exact hb, hc⟩⟩
theorem Ownb.kept {B : Nat} {w w' : World} {v : Value} {xs : List Nat} (h : Ownb B w v xs) (hk : ∀ k, v.ownBlock = some k → w'.heap[k]? = w.heap[k]?) : Ownb B w' v xs := by
  obtain ⟨ho, h | ⟨g, cap, r, e, hg, hb, hc⟩⟩ := h
  · exact ⟨ho, .inl h⟩
  · exact ⟨ho, .inr ⟨g, cap, r, e, hg, by unfold Bkb; rw [hk g (by rw [e]; rfl)]; exact hb, hc⟩⟩
theorem Own.blockLt {B : Nat} {w : World} {v : Value} {xs : List Nat} (h : Own B w v xs) : ∀ k, v.ownBlock = some k → k < w.heap.size := by
  obtain ⟨_, ⟨rfl, rfl⟩ | ⟨g, cap, r, rfl, hg, hb, _⟩⟩ := h
  · intro k e; cases e
  · intro k e; cases e; exact hb.lt
theorem Ownb.blockLt {B : Nat} {w : World} {v : Value} {xs : List Nat} (h : Ownb B w v xs) : ∀ k, v.ownBlock = some k → k < w.heap.size := by
  obtain ⟨_, ⟨rfl, rfl⟩ | ⟨g, cap, r, rfl, hg, hb, _⟩⟩ := h
  · intro k e; cases e
  · intro k e; cases e; exact hb.lt
/-- Limbs and bytes lie in two blocks. -/
theorem own_apart {B B' : Nat} {w : World} {v v' : Value} {xs ys : List Nat} (h : Own B w v xs) (h' : Ownb B' w v' ys) (k : Nat) (e : v.ownBlock = some k) : some k ≠ v'.ownBlock := by
  intro e'
  obtain ⟨_, ⟨rfl, _⟩ | ⟨g, cap, r, rfl, _, hb, _⟩⟩ := h
  · cases e
  obtain ⟨_, ⟨rfl, _⟩ | ⟨g', cap', r', rfl, _, hb', _⟩⟩ := h'
  · cases e'
  cases e; cases e'
  unfold Blk at hb; unfold Bkb at hb'
  rw [hb] at hb'
  simp at hb'

def DGIn (G n Q N : Nat) (lv : Value) (w : World) (ov rm i : Value) (wr : World) : Prop :=
  ∃ (j r : Nat) (o : List Nat), j ≤ 9 ∧ i = .int .i64 j ∧ rm = .int .u32 r ∧ r < tenN (9 - j) ∧ Ownb G wr ov o ∧ Okd o ∧ N = (Q * tenN (9 - j) + r) * tenN o.length + dval o ∧ o.length ≤ 32 * n + j ∧ Own G wr lv (limbs Q) ∧ Below G w wr

theorem dg_num {Q N r P V T : Nat} (h : N = (Q * (T * 10) + r) * P + V) : N = (Q * T + r / 10) * (P * 10) + (V + P * (r % 10)) := by
  have := Nat.div_add_mod r 10
  rw [h]
  conv => lhs; rw [← this]
  grind

def DGRel (G n N : Nat) (w : World) (L : Nat) (lv ov : Value) (wr : World) : Prop :=
  ∃ o : List Nat, Own G wr lv (limbs L) ∧ Ownb G wr ov o ∧ Okd o ∧ N = L * tenN o.length + dval o ∧ Below G w wr ∧ o.length ≤ 32 * n + 9

set_option maxHeartbeats 4000000 in
set_option maxRecDepth 100000 in
theorem digits_any (ad : Option Addr) (n cap : Nat) (xs : List Nat) (w : World) (hn : xs.length = n) (hcap : n ≤ cap) (hm : n ≤ 10000000) (ho : Okl xs) (hr : Rd w ad xs) :
    Calls Tryd.prog 33 #[.slice ad n cap] w fun e w' => e = .returned (.string (txt (dec (val xs)))) ∧ Below w.heap.size w w' := by
  have KN := Lib.hid (norm_any ad n cap xs w hn hcap (by omega) ho hr)
  have hlt := val_lt ho
  rw [hn] at hlt
  have hlen := limbs_len_le ho
  rw [hn] at hlen
  generalize val xs = N at *
  clear ho hr hn
  have HLT := Lib.hid hlt; clear hlt
  by_cases h0 : N = 0
  · subst h0
    go_enter Tryd.func33, Tryd.ntmps33
    go_wp2_with fail
    refine KN.out.mono ?_
    rintro e w' ⟨v, rfl, hv, hbl⟩
    obtain ⟨ad1, cap1, rfl, _, _, _⟩ := hv.view
    rw [limbs_zero] at hv ⊢
    go_wp2
    go_ret
    exact ⟨rfl, hbl⟩
  · have hne : (limbs N).length ≠ 0 := fun h => h0 ((limbs_nil_iff N).1 (List.eq_nil_of_length_eq_zero h))
    have hnb : (((limbs N).length : Int) == 0) = false := by rw [beq_eq_false_iff_ne]; omega
    have HNB := Lib.hid hnb
    clear hnb
    have hdec : dec N = (decl N).reverse := by unfold dec; rw [if_neg h0]
    have HDEC := Lib.hid hdec; clear hdec
    generalize hG : w.heap.size = G at *
    go_enter Tryd.func33, Tryd.ntmps33
    go_wp2_with fail
    refine KN.out.mono ?_
    rintro e w' ⟨v, rfl, hv, hbl⟩
    rw [hG] at hv hbl
    obtain ⟨ad1, cap1, hve, _, _, _⟩ := hv.view
    subst hve
    have hnb := HNB.out
    go_wp2
    clear hnb
    go_loopg [3, 4] N (fun L lv ov wr => DGRel G n N w L lv ov wr)
    case atStart => exact ⟨[], hv, Ownb.nil _ _, Okd.nil, by simp [tenN, dval], hbl, by simp⟩
    case round =>
      clear hv hbl
      obtain ⟨o, hown, hownb, hod, hN, hbl, hol⟩ := hrel
      obtain ⟨ad2, cap2, hve, hle, hrd, hadd⟩ := hown.view
      subst hve
      have HN := Lib.hid hN; clear hN
      have hsG : G ≤ wr.heap.size := Nat.le_trans (by rw [← hG]; exact Nat.le_refl _) hbl.size
      by_cases hL0 : gk = 0
      · subst hL0
        have hN2 := HN.out
        rw [Nat.zero_mul, Nat.zero_add] at hN2
        obtain ⟨hob, ⟨rfl, rfl⟩ | ⟨g, cap3, r3, rfl, hg3, hbk, hc3, hm3⟩⟩ := hownb
        · exact absurd hN2 h0
        · have hop : 0 < o.length := by
            rcases Nat.eq_zero_or_pos o.length with h1 | h1
            · rw [List.eq_nil_of_length_eq_zero h1] at hN2; exact absurd hN2 h0
            · exact h1
          have htr := trim_decl hod
          rw [← hN2] at htr
          have htl := trimLen_le o o.length
          have KT := Lib.hid (trimRight_any (some ⟨g, 0, none⟩) o.length cap3 o wr rfl hop (by omega) (by omega) hbk.rd_all)
          have hbd := hbk.own hg3 hob (trimLen o o.length) cap3 htl hc3 hm3
          rw [htr] at hbd
          have hdl : (decl N).length = trimLen o o.length := by rw [← htr, List.length_take, Nat.min_eq_left htl]
          rw [← hdl] at KT hbd htl
          obtain ⟨_, ⟨h1, _⟩ | ⟨g', cap', r', he', hg', hbk', hcc, hmm⟩⟩ := hbd
          · cases h1
          · cases he'
            have KR := Lib.hid (reverse_any g (decl N).length cap3 (decl N) r' wr rfl (by omega) (decl_ok N).b hbk')
            have hbr : Bkb (putb g (decl N).reverse r' wr) g (decl N).reverse r' := putb_blk _ _ hbk'.lt
            have hbl3 : Below G w (putb g (decl N).reverse r' wr) := putb_below hbl hg3 _ _
            have KC : ∀ q, (convert 60 9 (.slice (some ⟨g, 0, none⟩) (decl N).length cap3)).run Tryd.prog ((putb g (decl N).reverse r' wr).drewN q) = .ok (.string (txt (dec N))) ((putb g (decl N).reverse r' wr).drewN q) := by
              intro q
              have h2 := run_convert_bytes_arg (P := Tryd.prog) ((putb g (decl N).reverse r' wr).drewN q) 60 5 Tryd.underlying60 Tryd.underlying5 g 0 (decl N).length cap3 ((decl N).reverse.map (fun (x : Nat) => (x : Int))) (by simp) ?_ 9 Tryd.underlying9
              · rw [h2]
                have e : strOfNums ((decl N).reverse.map (fun (x : Nat) => (x : Int))) = txt (dec N) := by
                  rw [HDEC.out]; unfold strOfNums txt; simp
                rw [e]
              · intro i hi
                have h3 := (hbr.drewN q).cell i (by simpa using hi)
                rw [Nat.zero_add, h3]
                have hi2 : i < (decl N).reverse.length := by simpa using hi
                simp only [List.getD, List.getElem?_map, List.getElem?_eq_getElem hi2, Option.map_some, Option.getD_some]
            clear hcc hmm hN2 htr htl hdl hbk hbk' hbr hop hob hc3 hm3 hol hod HN
            go_wp2_with fail
            refine KT.out.mono ?_
            rintro e w' ⟨rfl, rfl⟩
            go_wp2_with fail
            refine KR.out.mono ?_
            rintro e w' ⟨rfl, q, rfl⟩
            have kc := KC q
            go_wp2
            go_ret
            exact ⟨rfl, below_drewN' hbl3 q⟩
      · have hLa : gk ≤ N := by rw [HN.out]; exact Nat.le_trans (Nat.le_mul_of_pos_right _ (tenN_pos _)) (Nat.le_add_right _ _)
        have hcb : o.length < 32 * n := ten_bound (N := N) (by rw [HN.out]; exact Nat.le_trans (Nat.le_mul_of_pos_left _ (by omega)) (Nat.le_add_right _ _)) HLT.out
        have hll : (limbs gk).length ≤ n := Nat.le_trans (limbs_len_mono hLa) hlen
        have hlp : 0 < (limbs gk).length := List.length_pos_iff.2 (fun h => hL0 ((limbs_nil_iff gk).1 h))
        have K3 := shrink_chunk G _ (limbs gk) wr hown hsG (by omega)
        rw [val_limbs] at K3
        have K3H := Lib.hid K3; clear K3
        go_wp2_with fail
        refine K3H.out.mono ?_
        rintro e w2 ⟨v2, rfl, hv2, hb2, hoth⟩
        have hownb2 : Ownb G w2 u4 o := hownb.kept (fun k hk => hoth k (fun e => own_apart hown hownb k e.symm hk.symm))
        have hbl2 : Below G w w2 := hbl.trans hb2
        have hrl : gk % 1000000000 < 1000000000 := Nat.mod_lt _ (by decide)
        have hdm := Nat.div_add_mod gk 1000000000
        have hql : gk / 1000000000 < gk := by omega
        generalize hrm : gk % 1000000000 = rm at *
        generalize hQ : gk / 1000000000 = Q at *
        have HDM := Lib.hid hdm
        clear hdm hrm hQ hoth hown hownb hbl hb2
        go_wp2
        go_loopw [4, 5, 19] (fun ov r i wr => DGIn G n Q N v2 w ov r i wr) (fun _ _ i _ => 9 - (intOf i).toNat)
        case atStart => exact ⟨0, rm, o, by omega, rfl, rfl, by rw [tenN_9]; exact hrl, hownb2, hod, by rw [HN.out, tenN_9, ← HDM.out, Nat.mul_comm 1000000000], by omega, hv2, hbl2⟩
        case round =>
          clear hv2 hownb2 hbl2 hod HN hcb hol
          obtain ⟨j, r, o2, hj, rfl, rfl, hr, hownb, hod, hN, hol, hleft, hbl⟩ := hrel
          have HN := Lib.hid hN; clear hN
          by_cases hj9 : j < 9
          · have hrb : r < 1000000000 := by
              have h1 : tenN (9 - j) ≤ tenN 9 := tenN_le (by omega)
              rw [tenN_9] at h1; omega
            have hs : tenN (9 - j) = tenN (9 - (j + 1)) * 10 := by rw [← tenN_succ]; congr 1; omega
            have hN2 := HN.out
            rw [hs] at hN2 hr
            have hN3 := dg_num hN2
            rw [← tenN_succ] at hN3
            have HN3 := Lib.hid hN3
            have HR3 := Lib.hid (show r / 10 < tenN (9 - (j + 1)) by omega)
            clear hN2 hN3 hs hr
            have hsz : G ≤ wr.heap.size := Nat.le_trans (by rw [← hG]; exact Nat.le_refl _) hbl.size
            go_wp2_with (at_builtin; refine wpl_appendb rfl (.tmp 21) (.tmp 26) rfl G u4 o2 rfl (hownb.below ((Below.refl _ _).alloc (Nat.le_refl _) _)) ⟨wr.heap.size, 0, none⟩ 1 (48 + r % 10) rfl ?hlt ?hcell ?hlen ?hbase ?_)
            case hlt => omega
            case hcell => simp
            case hlen => omega
            case hbase => simp; omega
            intro v' w4 hown4 hbl4 hgr
            have hleft4 : Own G w4 v2 (limbs Q) := (hleft.below ((Below.refl _ _).alloc (Nat.le_refl _) _)).kept (fun k hk => hgr.block k (by have := hleft.blockLt k hk; simp; omega) (own_apart hleft hownb k hk))
            have hbl5 : Below G w w4 := (hbl.alloc hsz _).trans hbl4
            clear hgr hleft hbl hbl4 hownb
            go_wp2
            go_roundw
            case rel => exact ⟨j + 1, r / 10, o2 ++ [48 + r % 10], by omega, by go_num, by go_num, HR3.out, hown4, hod.snoc (by omega) (by omega), by rw [dval_snoc, List.length_append, List.length_singleton, Nat.add_sub_cancel_left]; exact HN3.out, by rw [List.length_append, List.length_singleton]; omega, hleft4, hbl5⟩
            case measure => simp [intOf]; omega
          · obtain rfl : j = 9 := by omega
            have hN2 := HN.out
            have hr0 : r = 0 := by
              have : tenN (9 - 9) = 1 := rfl
              omega
            subst hr0
            rw [show tenN (9 - 9) = 1 from rfl, Nat.mul_one, Nat.add_zero] at hN2
            have HN2 := Lib.hid hN2; clear hN2
            go_wp2
            go_roundg Q
            case measure => exact hql
            case rel => exact ⟨o2, hleft, hownb, hod, HN2.out, hbl, by omega⟩
end Go.Proofs.YtolmmpdgbkbcmaaDoor
