/- The walk of the law CheadBack. -/
import Derived.Test.YtokgodobmcbdoaaHc
import Derived.Test.YtokgodobmcbdoaaPlv
import Derived.Test.YtokgodobmcbdoaaRc
import Derived.Deep.CutBlock
namespace Go.Proofs.Ytokgodobmcbdoaa
open Go.RowKit Go.Lib
set_option linter.unusedVariables false
set_option linter.unusedSimpArgs false
structure BackX (w : World) (p : Value) (W : World) : Prop where
  ex : ∃ x : Nat, x < 18446744073709551616 ∧ p = .int .u64 (x : Int) ∧ W = w
theorem BackX.of {w : World} (x : Nat) (hx : x < 18446744073709551616) : BackX w (.int .u64 (x : Int)) w := ⟨⟨x, hx, rfl, rfl⟩⟩
def BackW (x : Nat) (w : World) (p : Value) (W : World) : Prop := p = .int .i64 ((wantN x : Nat) : Int) ∧ W = w
theorem own_new (w : World) (e : TypeId) (x : Value) : (w.alloc (.cells #[x] e)).ownsRow w.heap.size e 1 (.slice (some ⟨w.heap.size, 0, none⟩) 1 1) 1 [x] :=
  ⟨rfl, .inr ⟨w.heap.size, 1, #[x], rfl, Nat.le_refl _, heap_alloc_new .., by decide, by unfold maxLen; omega, rfl, rfl⟩⟩
theorem want_0 {x : Nat} (h : x < 24) : wantN x = 1 := by unfold wantN; rw [if_pos h]
theorem want_1 {x : Nat} (h0 : ¬ x < 24) (h : x < 256) : wantN x = 2 := by unfold wantN; rw [if_neg h0, if_pos h]
theorem want_2 {x : Nat} (h0 : ¬ x < 24) (h1 : ¬ x < 256) (h : x < 65536) : wantN x = 3 := by unfold wantN; rw [if_neg h0, if_neg h1, if_pos h]
theorem want_4 {x : Nat} (h0 : ¬ x < 24) (h1 : ¬ x < 256) (h2 : ¬ x < 65536) (h : x < 4294967296) : wantN x = 5 := by unfold wantN; rw [if_neg h0, if_neg h1, if_neg h2, if_pos h]
theorem want_8 {x : Nat} (h0 : ¬ x < 24) (h1 : ¬ x < 256) (h2 : ¬ x < 65536) (h : ¬ x < 4294967296) : wantN x = 9 := by unfold wantN; rw [if_neg h0, if_neg h1, if_neg h2, if_neg h]
/-- What holds from round to round. -/
def BackL (w0 : World) (x h S : Nat) (c i : Value) (wr : World) : Prop :=
  ∃ (j : Nat) (L : List Nat) (n : Nat), n + j = 1 + S ∧ j ≤ S ∧ i = .int .i64 ((j : Int) - 1) ∧ wr.ownsRow w0.heap.size 5 1 c n (bv L) ∧ L ++ be j x = h :: be S x ∧ Below w0.heap.size w0 wr
theorem BackL.step {w0 w' : World} {x h S t n : Nat} {L : List Nat} {c : Value} (hn : n + (t + 1) = 1 + S) (hj : t + 1 ≤ S) (hL : L ++ be (t + 1) x = h :: be S x) (ho : w'.ownsRow w0.heap.size 5 1 c (n + 1) (bv (L ++ [x / 256 ^ t % 256]))) (hb : Below w0.heap.size w0 w') : BackL w0 x h S c (.int .i64 ((t : Int) - 1)) w' :=
  ⟨t, _, n + 1, by omega, by omega, rfl, ho, by rw [← hL]; simp [be], hb⟩
set_option maxHeartbeats 4000000 in
set_option maxRecDepth 100000 in
theorem cheadBack_walk (j0 : Int) (v0 : Nat) (n0 : Int) (r0 : Int) (w : World) (hj0 : -9223372036854775808 ≤ j0 ∧ j0 ≤ 9223372036854775807) (hv0 : v0 < 18446744073709551616) (hn0 : -9223372036854775808 ≤ n0 ∧ n0 ≤ 9223372036854775807) (hr0 : -9223372036854775808 ≤ r0 ∧ r0 ≤ 9223372036854775807) :
    Calls Try.prog 4 #[.int .i64 j0, .int .u64 v0, .int .i64 n0, .int .i64 r0] w (BoolBelow true w) := by
  have K1 := Lib.hid (fun W => place_any n0 65 W hn0 ⟨by decide, by decide⟩)
  obtain ⟨k, hk⟩ : ∃ k : Nat, n0 % 65 = (k : Int) := ⟨(n0 % 65).toNat, by omega⟩
  rw [hk] at K1
  have K2 := Lib.hid (fun W => place_any j0 8 W hj0 ⟨by decide, by decide⟩)
  obtain ⟨m, hm⟩ : ∃ m : Nat, j0 % 8 = (m : Int) := ⟨(j0 % 8).toNat, by omega⟩
  have hm8 : m < 8 := by omega
  rw [hm] at K2
  have K3 := Lib.hid (fun W => place_any r0 4 W hr0 ⟨by decide, by decide⟩)
  obtain ⟨p, hp⟩ : ∃ p : Nat, r0 % 4 = (p : Int) := ⟨(r0 % 4).toNat, by omega⟩
  have hp4 : p < 4 := by omega
  rw [hp] at K3
  have hk65 : k < 65 := by omega
  clear hk hm hp hj0 hn0 hr0
  go_enter Try.func4, Try.ntmps4
  go_wp2_with fail
  refine (K1.out _).mono ?_
  rintro r w1 ⟨rfl, rfl⟩
  go_upto_if 37 with fail
  go_cut [10] from 38 to 43 (fun p W => BackX w1 p W)
  case first =>
    by_cases h : k < 64
    · have hki : (k : Int) < 64 := by omega
      go_wp2_with fail
      obtain ⟨x, hx, e⟩ := and_nat (v0 : Int) (IntKind.u64.wrap (IntKind.u64.wrap (2 ^ k) - 1))
      rw [e]
      go_meet
      exact BackX.of x hx
    · have hki : ¬ (k : Int) < 64 := by omega
      go_wp2_with fail
      go_meet
      exact BackX.of v0 hv0
  case rest =>
    obtain ⟨⟨x, hx, rfl, hw⟩⟩ := hcut
    subst hw
    clear hv0 hk65 K1
    go_upto_block 0 with fail
    go_cut [11] from 44 to 55 (fun p W => BackW x wc p W)
    case first =>
      by_cases g1 : x < 24
      · have HW := Lib.hid (want_0 g1)
        have z1 : (x : Int) < 24 := by omega
        clear g1
        go_wp2_with fail
        go_meet
        exact ⟨by rw [HW.out]; rfl, rfl⟩
      by_cases g2 : x < 256
      · have HW := Lib.hid (want_1 g1 g2)
        have z1 : ¬ (x : Int) < 24 := by omega
        have z2 : (x : Int) < 256 := by omega
        clear g1 g2
        go_wp2_with fail
        go_meet
        exact ⟨by rw [HW.out]; rfl, rfl⟩
      by_cases g3 : x < 65536
      · have HW := Lib.hid (want_2 g1 g2 g3)
        have z1 : ¬ (x : Int) < 24 := by omega
        have z2 : ¬ (x : Int) < 256 := by omega
        have z3 : (x : Int) < 65536 := by omega
        clear g1 g2 g3
        go_wp2_with fail
        go_meet
        exact ⟨by rw [HW.out]; rfl, rfl⟩
      by_cases g4 : x < 4294967296
      · have HW := Lib.hid (want_4 g1 g2 g3 g4)
        have z1 : ¬ (x : Int) < 24 := by omega
        have z2 : ¬ (x : Int) < 256 := by omega
        have z3 : ¬ (x : Int) < 65536 := by omega
        have z4 : (x : Int) < 4294967296 := by omega
        clear g1 g2 g3 g4
        go_wp2_with fail
        go_meet
        exact ⟨by rw [HW.out]; rfl, rfl⟩
      · have HW := Lib.hid (want_8 g1 g2 g3 g4)
        have z1 : ¬ (x : Int) < 24 := by omega
        have z2 : ¬ (x : Int) < 256 := by omega
        have z3 : ¬ (x : Int) < 65536 := by omega
        have z4 : ¬ (x : Int) < 4294967296 := by omega
        clear g1 g2 g3 g4
        go_wp2_with fail
        go_meet
        exact ⟨by rw [HW.out]; rfl, rfl⟩
    case rest =>
      obtain ⟨rfl, hw⟩ := hcut
      subst hw
      obtain ⟨kk, _, hlen, hwk, _⟩ := hd_want m x hx
      have hw9 := wantN_le x
      have HLB := Lib.hid (show (1 :: hd m x).length = wantN x + 1 by rw [List.length_cons, hlen, hwk])
      have HBT := Lib.hid (show ∀ y ∈ 1 :: hd m x, y < 256 from fun y hy => by
        rcases List.mem_cons.1 hy with rfl | h
        · decide
        · exact hd_lt m x hm8 hx y h)
      have KP := Lib.hid (fun W => (put_any (some ⟨W.heap.size, 0, none⟩) [1] 1 1 x (m : Int) (W.alloc (.cells #[.int .u8 1] 5)) rfl (by decide) (by decide) (rd_new W _ [.int .u8 1]) hx).mono fun _ _ h => h.viewL)
      have KG1 := Lib.hid (fun ad cap W (hc : wantN x + 1 ≤ cap) (hr : RdV W ad (bv (1 :: hd m x))) => get_any ad (wantN x + 1) cap (1 :: hd m x) ((1 : Nat) : Int) W HLB.out (by omega) hc HBT.out hr (by decide))
      have KG2 := Lib.hid (fun ad cap W (hc : wantN x + 1 ≤ cap) (hr : RdV W ad (bv (1 :: hd m x))) => get_any ad (wantN x) cap ((1 :: hd m x).take (wantN x)) ((1 : Nat) : Int) W (by rw [List.length_take, HLB.out]; omega) (by omega) (by omega) (fun y hy => HBT.out y (List.mem_of_mem_take hy)) (by rw [← bv_take]; exact hr.take _) (by decide))
      have em : ((m : Int) % 8).toNat = m := by omega
      have HL := HLB.out
      simp only [List.cons_append, List.nil_append, em] at KP
      unfold ViewL at KP
      unfold GetR at KG1 KG2
      rw [HL] at KP
      rw [get_back m x hm8 hx] at KG1
      rw [get_cut m x hm8 hx] at KG2
      simp only [tup] at KG1 KG2
      have AW := Lib.hid (fun W (h : Below wc.heap.size wc W) => (awake_any W).mono fun _ _ hp => BoolBelow.mk (w := wc) hp.1 (below_on h hp.2))
      clear em HL hlen hwk
      generalize wantN x = wn at *
      go_wp2_with fail
      refine (K2.out _).mono ?_
      rintro r w2 ⟨rfl, rfl⟩
      go_wp2_with fail
      refine (KP.out _).mono ?_
      rintro r w3 ⟨ad3, cap3, rfl, hc3, hr3, hb3⟩
      have HB3 := Lib.hid (show Below w2.heap.size w2 w3 from ((Below.refl _ _).alloc (Nat.le_refl _) _).trans (hb3.mono (by simp)))
      have HR3 := Lib.hid hr3
      have hneq : (((wn + 1 : Nat) : Int) != (wn : Int) + 1) = false := by simp
      clear hb3 hr3
      go_wp2_with fail
      refine (KG1.out _ _ _ hc3 HR3.out).mono ?_
      rintro r w4 ⟨rfl, hb4⟩
      have HB4 := Lib.hid (below_on HB3.out hb4)
      have HR4 := Lib.hid (HR3.out.on hb4)
      clear hb4 hneq
      have hcw : wn ≤ cap3 := by omega
      go_wp2_with fail
      refine (KG2.out _ _ _ hc3 HR4.out).mono ?_
      rintro r w5 ⟨rfl, hb5⟩
      have HB5 := Lib.hid (below_on HB4.out hb5)
      clear hb5 HR3 HR4 hcw hc3
      go_wp2_with fail
      refine (K3.out _).mono ?_
      rintro r w6 ⟨rfl, rfl⟩
      have hp : p = 0 ∨ p = 1 ∨ p = 2 ∨ p = 3 := by omega
      rcases hp with rfl | rfl | rfl | rfl
      · have KG3 := Lib.hid (fun ad cap W (hc : 1 + 1 ≤ cap) (hr : RdV W ad (bv ((m * 32 + 24 + 0) :: be 1 x))) => get_any ad (1 + 1) cap ((m * 32 + 24 + 0) :: be 1 x) ((0 : Nat) : Int) W (by rw [List.length_cons, be_len]) (by decide) hc (fun y hy => by
          rcases List.mem_cons.1 hy with rfl | h
          · omega
          · exact be_lt 1 x y h) hr (by decide))
        unfold GetR at KG3
        rw [get_long m x 0 1 hm8 (by decide) rfl] at KG3
        simp only [tup] at KG3
        obtain ⟨z, hz⟩ : ∃ z, x % 256 ^ 1 = z := ⟨_, rfl⟩
        rw [hz] at KG3
        have hzx : x < 256 → z = x := fun h => by rw [← hz]; exact Nat.mod_eq_of_lt h
        clear hz
        have hH : ∀ v : Int, v = (((m * 32 + 24 + 0 : Nat)) : Int) → [Value.int .u8 v] = bv [m * 32 + 24 + 0] := fun v h => by rw [h]; rfl
        have HHD := Lib.hid (fun v (h : v = (((m * 32 + 24 + 0 : Nat)) : Int)) => show (w6.alloc (.cells #[Value.int .u8 v] 5)).ownsRow w6.heap.size 5 1 (.slice (some ⟨w6.heap.size, 0, none⟩) 1 1) 1 (bv [m * 32 + 24 + 0]) from by rw [← hH v h]; exact own_new _ _ _)
        clear hH
        go_wp2_with fail
        go_loopw [25, 26] (fun c i wr => BackL w6 x (m * 32 + 24 + 0) 1 c i wr) (fun _ i _ => (intOf i + 1).toNat)
        case atStart => exact ⟨1, [m * 32 + 24 + 0], 1, rfl, Nat.le_refl _, rfl, HHD.out _ (by omega), rfl, (Below.refl _ _).alloc (Nat.le_refl _) _⟩
        case round =>
          obtain ⟨j, L, n, hnn, hj, rfl, ho, hLL, hbl⟩ := hrel
          have HNN := Lib.hid hnn
          have hn9 : n ≤ 9 := by omega
          clear hnn
          have HO := Lib.hid ho; have HLL := Lib.hid hLL; have HBL := Lib.hid hbl
          clear ho hLL hbl
          by_cases hj0 : 0 < j
          · obtain ⟨t, rfl⟩ : ∃ t, j = t + 1 := ⟨j - 1, by omega⟩
            have e1 : ((t + 1 : Nat) : Int) - 1 = (t : Int) := by omega
            have e2 : (0 : Int) ≤ (t : Int) := by omega
            have e3 : (8 * t : Nat) ≤ 64 := by omega
            have EB := Lib.hid (shr_byte x t)
            rw [e1]
            clear e1 hj0
            go_wp2_with (at_builtin; refine wpl_put wr _ rfl _ _ rfl w6 _ n L rfl HO.out HBL.out 1 rfl rfl [x / 256 ^ t % 256] (by rw [EB.out]; rfl) (L ++ [x / 256 ^ t % 256]) rfl (by omega) ?_)
            intro c2 w7 ho7 hb7
            have HST := Lib.hid (BackL.step HNN.out hj HLL.out ho7 hb7)
            clear ho7 hb7
            go_wp2
            go_roundw
            case rel => exact HST.out
            case measure => simp [intOf]
          · obtain rfl : j = 0 := by omega
            have hL : L = (m * 32 + 24 + 0) :: be 1 x := by rw [← HLL.out]; simp [be]
            subst hL
            obtain rfl : n = 1 + 1 := by have := HNN.out; omega
            obtain ⟨ad8, cap8, rfl, hc8, hr8, _, _⟩ := own_view HO.out
            have HR8 := Lib.hid hr8; have HC8 := Lib.hid hc8
            clear hr8 hc8 HO HLL hj0
            go_wp2_with fail
            refine (KG3.out _ _ _ HC8.out HR8.out).mono ?_
            rintro r w9 ⟨rfl, hb9⟩
            have HB9 := Lib.hid (below_on HB5.out (below_on HBL.out hb9))
            clear hb9 HR8 HC8
            by_cases hfit : x < 256
            · have hzz : z = x := hzx hfit
              have hf2 : (x : Int) < 256 := by omega
              subst hzz
              clear hzx hfit
              go_wp2_with fail
              refine (AW.out _ HB9.out).mono ?_
              rintro r wa ⟨rfl, hba⟩
              have HBA := Lib.hid hba
              clear hba
              go_wp2_with fail
              go_ret
              exact BoolBelow.mk rfl HBA.out
            · have hf2 : decide ((x : Int) < 256) = false := decide_eq_false (by omega)
              clear hzx hfit
              go_wp2_with fail
              refine (AW.out _ HB9.out).mono ?_
              rintro r wa ⟨rfl, hba⟩
              have HBA := Lib.hid hba
              clear hba
              go_wp2_with fail
              go_ret
              exact BoolBelow.mk rfl HBA.out
      · have KG3 := Lib.hid (fun ad cap W (hc : 1 + 2 ≤ cap) (hr : RdV W ad (bv ((m * 32 + 24 + 1) :: be 2 x))) => get_any ad (1 + 2) cap ((m * 32 + 24 + 1) :: be 2 x) ((0 : Nat) : Int) W (by rw [List.length_cons, be_len]) (by decide) hc (fun y hy => by
          rcases List.mem_cons.1 hy with rfl | h
          · omega
          · exact be_lt 2 x y h) hr (by decide))
        unfold GetR at KG3
        rw [get_long m x 1 2 hm8 (by decide) rfl] at KG3
        simp only [tup] at KG3
        obtain ⟨z, hz⟩ : ∃ z, x % 256 ^ 2 = z := ⟨_, rfl⟩
        rw [hz] at KG3
        have hzx : x < 65536 → z = x := fun h => by rw [← hz]; exact Nat.mod_eq_of_lt h
        clear hz
        have hH : ∀ v : Int, v = (((m * 32 + 24 + 1 : Nat)) : Int) → [Value.int .u8 v] = bv [m * 32 + 24 + 1] := fun v h => by rw [h]; rfl
        have HHD := Lib.hid (fun v (h : v = (((m * 32 + 24 + 1 : Nat)) : Int)) => show (w6.alloc (.cells #[Value.int .u8 v] 5)).ownsRow w6.heap.size 5 1 (.slice (some ⟨w6.heap.size, 0, none⟩) 1 1) 1 (bv [m * 32 + 24 + 1]) from by rw [← hH v h]; exact own_new _ _ _)
        clear hH
        go_wp2_with fail
        go_loopw [25, 26] (fun c i wr => BackL w6 x (m * 32 + 24 + 1) 2 c i wr) (fun _ i _ => (intOf i + 1).toNat)
        case atStart => exact ⟨2, [m * 32 + 24 + 1], 1, rfl, Nat.le_refl _, rfl, HHD.out _ (by omega), rfl, (Below.refl _ _).alloc (Nat.le_refl _) _⟩
        case round =>
          obtain ⟨j, L, n, hnn, hj, rfl, ho, hLL, hbl⟩ := hrel
          have HNN := Lib.hid hnn
          have hn9 : n ≤ 9 := by omega
          clear hnn
          have HO := Lib.hid ho; have HLL := Lib.hid hLL; have HBL := Lib.hid hbl
          clear ho hLL hbl
          by_cases hj0 : 0 < j
          · obtain ⟨t, rfl⟩ : ∃ t, j = t + 1 := ⟨j - 1, by omega⟩
            have e1 : ((t + 1 : Nat) : Int) - 1 = (t : Int) := by omega
            have e2 : (0 : Int) ≤ (t : Int) := by omega
            have e3 : (8 * t : Nat) ≤ 64 := by omega
            have EB := Lib.hid (shr_byte x t)
            rw [e1]
            clear e1 hj0
            go_wp2_with (at_builtin; refine wpl_put wr _ rfl _ _ rfl w6 _ n L rfl HO.out HBL.out 1 rfl rfl [x / 256 ^ t % 256] (by rw [EB.out]; rfl) (L ++ [x / 256 ^ t % 256]) rfl (by omega) ?_)
            intro c2 w7 ho7 hb7
            have HST := Lib.hid (BackL.step HNN.out hj HLL.out ho7 hb7)
            clear ho7 hb7
            go_wp2
            go_roundw
            case rel => exact HST.out
            case measure => simp [intOf]
          · obtain rfl : j = 0 := by omega
            have hL : L = (m * 32 + 24 + 1) :: be 2 x := by rw [← HLL.out]; simp [be]
            subst hL
            obtain rfl : n = 1 + 2 := by have := HNN.out; omega
            obtain ⟨ad8, cap8, rfl, hc8, hr8, _, _⟩ := own_view HO.out
            have HR8 := Lib.hid hr8; have HC8 := Lib.hid hc8
            clear hr8 hc8 HO HLL hj0
            go_wp2_with fail
            refine (KG3.out _ _ _ HC8.out HR8.out).mono ?_
            rintro r w9 ⟨rfl, hb9⟩
            have HB9 := Lib.hid (below_on HB5.out (below_on HBL.out hb9))
            clear hb9 HR8 HC8
            by_cases hfit : x < 65536
            · have hzz : z = x := hzx hfit
              have hf2 : (x : Int) < 65536 := by omega
              subst hzz
              clear hzx hfit
              go_wp2_with fail
              refine (AW.out _ HB9.out).mono ?_
              rintro r wa ⟨rfl, hba⟩
              have HBA := Lib.hid hba
              clear hba
              go_wp2_with fail
              go_ret
              exact BoolBelow.mk rfl HBA.out
            · have hf2 : decide ((x : Int) < 65536) = false := decide_eq_false (by omega)
              clear hzx hfit
              go_wp2_with fail
              refine (AW.out _ HB9.out).mono ?_
              rintro r wa ⟨rfl, hba⟩
              have HBA := Lib.hid hba
              clear hba
              go_wp2_with fail
              go_ret
              exact BoolBelow.mk rfl HBA.out
      · have KG3 := Lib.hid (fun ad cap W (hc : 1 + 4 ≤ cap) (hr : RdV W ad (bv ((m * 32 + 24 + 2) :: be 4 x))) => get_any ad (1 + 4) cap ((m * 32 + 24 + 2) :: be 4 x) ((0 : Nat) : Int) W (by rw [List.length_cons, be_len]) (by decide) hc (fun y hy => by
          rcases List.mem_cons.1 hy with rfl | h
          · omega
          · exact be_lt 4 x y h) hr (by decide))
        unfold GetR at KG3
        rw [get_long m x 2 4 hm8 (by decide) rfl] at KG3
        simp only [tup] at KG3
        obtain ⟨z, hz⟩ : ∃ z, x % 256 ^ 4 = z := ⟨_, rfl⟩
        rw [hz] at KG3
        have hzx : x < 4294967296 → z = x := fun h => by rw [← hz]; exact Nat.mod_eq_of_lt h
        clear hz
        have hH : ∀ v : Int, v = (((m * 32 + 24 + 2 : Nat)) : Int) → [Value.int .u8 v] = bv [m * 32 + 24 + 2] := fun v h => by rw [h]; rfl
        have HHD := Lib.hid (fun v (h : v = (((m * 32 + 24 + 2 : Nat)) : Int)) => show (w6.alloc (.cells #[Value.int .u8 v] 5)).ownsRow w6.heap.size 5 1 (.slice (some ⟨w6.heap.size, 0, none⟩) 1 1) 1 (bv [m * 32 + 24 + 2]) from by rw [← hH v h]; exact own_new _ _ _)
        clear hH
        go_wp2_with fail
        go_loopw [25, 26] (fun c i wr => BackL w6 x (m * 32 + 24 + 2) 4 c i wr) (fun _ i _ => (intOf i + 1).toNat)
        case atStart => exact ⟨4, [m * 32 + 24 + 2], 1, rfl, Nat.le_refl _, rfl, HHD.out _ (by omega), rfl, (Below.refl _ _).alloc (Nat.le_refl _) _⟩
        case round =>
          obtain ⟨j, L, n, hnn, hj, rfl, ho, hLL, hbl⟩ := hrel
          have HNN := Lib.hid hnn
          have hn9 : n ≤ 9 := by omega
          clear hnn
          have HO := Lib.hid ho; have HLL := Lib.hid hLL; have HBL := Lib.hid hbl
          clear ho hLL hbl
          by_cases hj0 : 0 < j
          · obtain ⟨t, rfl⟩ : ∃ t, j = t + 1 := ⟨j - 1, by omega⟩
            have e1 : ((t + 1 : Nat) : Int) - 1 = (t : Int) := by omega
            have e2 : (0 : Int) ≤ (t : Int) := by omega
            have e3 : (8 * t : Nat) ≤ 64 := by omega
            have EB := Lib.hid (shr_byte x t)
            rw [e1]
            clear e1 hj0
            go_wp2_with (at_builtin; refine wpl_put wr _ rfl _ _ rfl w6 _ n L rfl HO.out HBL.out 1 rfl rfl [x / 256 ^ t % 256] (by rw [EB.out]; rfl) (L ++ [x / 256 ^ t % 256]) rfl (by omega) ?_)
            intro c2 w7 ho7 hb7
            have HST := Lib.hid (BackL.step HNN.out hj HLL.out ho7 hb7)
            clear ho7 hb7
            go_wp2
            go_roundw
            case rel => exact HST.out
            case measure => simp [intOf]
          · obtain rfl : j = 0 := by omega
            have hL : L = (m * 32 + 24 + 2) :: be 4 x := by rw [← HLL.out]; simp [be]
            subst hL
            obtain rfl : n = 1 + 4 := by have := HNN.out; omega
            obtain ⟨ad8, cap8, rfl, hc8, hr8, _, _⟩ := own_view HO.out
            have HR8 := Lib.hid hr8; have HC8 := Lib.hid hc8
            clear hr8 hc8 HO HLL hj0
            go_wp2_with fail
            refine (KG3.out _ _ _ HC8.out HR8.out).mono ?_
            rintro r w9 ⟨rfl, hb9⟩
            have HB9 := Lib.hid (below_on HB5.out (below_on HBL.out hb9))
            clear hb9 HR8 HC8
            by_cases hfit : x < 4294967296
            · have hzz : z = x := hzx hfit
              have hf2 : (x : Int) < 4294967296 := by omega
              subst hzz
              clear hzx hfit
              go_wp2_with fail
              refine (AW.out _ HB9.out).mono ?_
              rintro r wa ⟨rfl, hba⟩
              have HBA := Lib.hid hba
              clear hba
              go_wp2_with fail
              go_ret
              exact BoolBelow.mk rfl HBA.out
            · have hf2 : decide ((x : Int) < 4294967296) = false := decide_eq_false (by omega)
              clear hzx hfit
              go_wp2_with fail
              refine (AW.out _ HB9.out).mono ?_
              rintro r wa ⟨rfl, hba⟩
              have HBA := Lib.hid hba
              clear hba
              go_wp2_with fail
              go_ret
              exact BoolBelow.mk rfl HBA.out
      · have KG3 := Lib.hid (fun ad cap W (hc : 1 + 8 ≤ cap) (hr : RdV W ad (bv ((m * 32 + 24 + 3) :: be 8 x))) => get_any ad (1 + 8) cap ((m * 32 + 24 + 3) :: be 8 x) ((0 : Nat) : Int) W (by rw [List.length_cons, be_len]) (by decide) hc (fun y hy => by
          rcases List.mem_cons.1 hy with rfl | h
          · omega
          · exact be_lt 8 x y h) hr (by decide))
        unfold GetR at KG3
        rw [get_long m x 3 8 hm8 (by decide) rfl] at KG3
        simp only [tup] at KG3
        obtain ⟨z, hz⟩ : ∃ z, x % 256 ^ 8 = z := ⟨_, rfl⟩
        rw [hz] at KG3
        have hzx : x < 18446744073709551616 → z = x := fun h => by rw [← hz]; exact Nat.mod_eq_of_lt h
        clear hz
        have hH : ∀ v : Int, v = (((m * 32 + 24 + 3 : Nat)) : Int) → [Value.int .u8 v] = bv [m * 32 + 24 + 3] := fun v h => by rw [h]; rfl
        have HHD := Lib.hid (fun v (h : v = (((m * 32 + 24 + 3 : Nat)) : Int)) => show (w6.alloc (.cells #[Value.int .u8 v] 5)).ownsRow w6.heap.size 5 1 (.slice (some ⟨w6.heap.size, 0, none⟩) 1 1) 1 (bv [m * 32 + 24 + 3]) from by rw [← hH v h]; exact own_new _ _ _)
        clear hH
        go_wp2_with fail
        go_loopw [25, 26] (fun c i wr => BackL w6 x (m * 32 + 24 + 3) 8 c i wr) (fun _ i _ => (intOf i + 1).toNat)
        case atStart => exact ⟨8, [m * 32 + 24 + 3], 1, rfl, Nat.le_refl _, rfl, HHD.out _ (by omega), rfl, (Below.refl _ _).alloc (Nat.le_refl _) _⟩
        case round =>
          obtain ⟨j, L, n, hnn, hj, rfl, ho, hLL, hbl⟩ := hrel
          have HNN := Lib.hid hnn
          have hn9 : n ≤ 9 := by omega
          clear hnn
          have HO := Lib.hid ho; have HLL := Lib.hid hLL; have HBL := Lib.hid hbl
          clear ho hLL hbl
          by_cases hj0 : 0 < j
          · obtain ⟨t, rfl⟩ : ∃ t, j = t + 1 := ⟨j - 1, by omega⟩
            have e1 : ((t + 1 : Nat) : Int) - 1 = (t : Int) := by omega
            have e2 : (0 : Int) ≤ (t : Int) := by omega
            have e3 : (8 * t : Nat) ≤ 64 := by omega
            have EB := Lib.hid (shr_byte x t)
            rw [e1]
            clear e1 hj0
            go_wp2_with (at_builtin; refine wpl_put wr _ rfl _ _ rfl w6 _ n L rfl HO.out HBL.out 1 rfl rfl [x / 256 ^ t % 256] (by rw [EB.out]; rfl) (L ++ [x / 256 ^ t % 256]) rfl (by omega) ?_)
            intro c2 w7 ho7 hb7
            have HST := Lib.hid (BackL.step HNN.out hj HLL.out ho7 hb7)
            clear ho7 hb7
            go_wp2
            go_roundw
            case rel => exact HST.out
            case measure => simp [intOf]
          · obtain rfl : j = 0 := by omega
            have hL : L = (m * 32 + 24 + 3) :: be 8 x := by rw [← HLL.out]; simp [be]
            subst hL
            obtain rfl : n = 1 + 8 := by have := HNN.out; omega
            obtain ⟨ad8, cap8, rfl, hc8, hr8, _, _⟩ := own_view HO.out
            have HR8 := Lib.hid hr8; have HC8 := Lib.hid hc8
            clear hr8 hc8 HO HLL hj0
            go_wp2_with fail
            refine (KG3.out _ _ _ HC8.out HR8.out).mono ?_
            rintro r w9 ⟨rfl, hb9⟩
            have HB9 := Lib.hid (below_on HB5.out (below_on HBL.out hb9))
            clear hb9 HR8 HC8
            have hzz : z = x := hzx (by omega)
            subst hzz
            clear hzx
            go_wp2_with fail
            refine (AW.out _ HB9.out).mono ?_
            rintro r wa ⟨rfl, hba⟩
            have HBA := Lib.hid hba
            clear hba
            go_wp2_with fail
            go_ret
            exact BoolBelow.mk rfl HBA.out
end Go.Proofs.Ytokgodobmcbdoaa
