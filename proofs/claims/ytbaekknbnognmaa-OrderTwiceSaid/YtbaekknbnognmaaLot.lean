/- The walk of the law OrderTwice. -/
import Derived.Test.YtbaekknbnognmaaO8
import Derived.Test.YtbaekknbnognmaaO9
import Derived.Test.YtbaekknbnognmaaV2
import Derived.Test.YtbaekknbnognmaaPlv
namespace Go.Proofs.Ytbaekknbnognmaa
open Go.RowKit
set_option linter.unusedVariables false
set_option linter.unusedSimpArgs false

def abcB : ByteArray := ⟨#[97, 98, 99, 100, 101, 102, 103, 104, 105, 106, 107, 108, 109, 110, 111, 112, 113, 114, 115, 116, 117, 118, 119, 120, 121, 122]⟩
/-- The beginnings that are laid. -/
def begs (k c n : Nat) : List ByteArray := (List.range n).map fun i => abcB.extract 0 ((i + c) % k + 1)
theorem begs_len (k c n : Nat) : (begs k c n).length = n := by simp [begs]
theorem begs_succ (k c n : Nat) : begs k c (n + 1) = begs k c n ++ [abcB.extract 0 ((n + c) % k + 1)] := by simp [begs, List.range_succ]
theorem begs_key (k c n i : Nat) (hi : i < n) : keyB (begs k c n) i = turned abcB.data.toList k c i := by
  unfold keyB turned begs
  have : ((List.range n).map fun i => abcB.extract 0 ((i + c) % k + 1)).getD i ByteArray.empty = abcB.extract 0 ((i + c) % k + 1) := by simp [List.getD, hi]
  rw [this, ByteArray.toList_eq, ByteArray.data_extract, Array.toList_extract, List.extract_eq_take_drop]
  simp
theorem abc_len : abcB.data.toList.length = 26 := rfl
theorem key_more (l : List ByteArray) (s : ByteArray) (i : Nat) (hi : i < l.length) : keyB (l ++ [s]) i = keyB l i := by
  unfold keyB; rw [show (l ++ [s]).getD i ByteArray.empty = l.getD i ByteArray.empty by simp only [List.getD, List.getElem?_append_left hi]]
theorem key_last (l : List ByteArray) (s : ByteArray) : keyB (l ++ [s]) l.length = s.toList := by
  unfold keyB; simp [List.getD]

/-- What holds from round to round of the first loop. -/
def TW (k c B : Nat) (w0 : World) (v i : Value) (wr : World) : Prop :=
  ∃ n : Nat, n ≤ k ∧ i = .int .i64 (n : Int) ∧ wr.ownsRow B 9 1 v n (sv (begs k c n)) ∧ Below B w0 wr
theorem TW.step {k c n B : Nat} {w0 wr w' : World} {v v' : Value} {o : Obj} (hlt : n < k) (ho : wr.ownsRow B 9 1 v n (sv (begs k c n))) (hb : Below B w0 wr) (hB : w0.heap.size = B)
    (h1 : w'.ownsRow B 9 1 v' (n + 1) (sv (begs k c n) ++ [.string (abcB.extract 0 ((n + c) % k + 1))])) (h2 : (wr.alloc o).grownBy w' v.ownBlock) : TW k c B w0 v' (.int .i64 ((n : Int) + 1)) w' := by
  refine ⟨n + 1, by omega, by congr 1, ?_, ?_⟩
  · rw [begs_succ]; simpa [sv] using h1
  · exact (hb.alloc (by have := hb.size; omega) o).grown h2 (by have := hb.size; simp; omega) (fun g hg => (ho.lt g hg).1)
set_option maxHeartbeats 4000000 in
set_option maxRecDepth 100000 in
theorem orderTwice_walk (n0 at0 by0 : Int) (w : World) (hn0 : -9223372036854775808 ≤ n0 ∧ n0 ≤ 9223372036854775807) (hat0 : -9223372036854775808 ≤ at0 ∧ at0 ≤ 9223372036854775807) (hby0 : -9223372036854775808 ≤ by0 ∧ by0 ≤ 9223372036854775807) :
    Calls Try.prog 6 #[.int .i64 n0, .int .i64 at0, .int .i64 by0] w (BoolBelow true w) := by
  have K1 := Lib.hid (fun W => place_any n0 25 W hn0 ⟨by decide, by decide⟩)
  have p1 := Int.emod_nonneg n0 (show (25 : Int) ≠ 0 by decide)
  have p2 := Int.emod_lt_of_pos n0 (show (0 : Int) < 25 by decide)
  generalize n0 % 25 = r at *
  obtain ⟨m, rfl⟩ : ∃ m : Nat, r = m := ⟨r.toNat, by omega⟩
  have hk : m + 1 ≤ 25 := by omega
  have K2 := Lib.hid (fun W => place_any by0 ((m : Int) + 1) W hby0 ⟨by omega, by omega⟩)
  have c1 := Int.emod_nonneg by0 (show ((m : Int) + 1) ≠ 0 by omega)
  have c2 := Int.emod_lt_of_pos by0 (show (0 : Int) < (m : Int) + 1 by omega)
  generalize by0 % ((m : Int) + 1) = r at *
  obtain ⟨c, rfl⟩ : ∃ c : Nat, r = c := ⟨r.toNat, by omega⟩
  have K3 := Lib.hid (fun W => place_any at0 ((m : Int) + 1) W hat0 ⟨by omega, by omega⟩)
  have d1 := Int.emod_nonneg at0 (show ((m : Int) + 1) ≠ 0 by omega)
  have d2 := Int.emod_lt_of_pos at0 (show (0 : Int) < (m : Int) + 1 by omega)
  generalize at0 % ((m : Int) + 1) = r at *
  obtain ⟨x, rfl⟩ : ∃ x : Nat, r = x := ⟨r.toNat, by omega⟩
  obtain ⟨k, hkm⟩ : ∃ k, k = m + 1 := ⟨_, rfl⟩
  clear p1 p2 hn0 hat0 hby0
  go_enter Try.func6, Try.ntmps6
  go_wp2_with fail
  refine (K1.out _).mono ?_
  rintro r w0 ⟨rfl, rfl⟩
  have HK := Lib.hid hkm
  have e1 : (1 : Int) + (m : Int) = (k : Int) := by omega
  have hk2 : k ≤ 25 := by omega
  have hc : c < k := by omega
  have hx : x < k := by omega
  rw [show (m : Int) + 1 = (k : Int) by omega] at K2 K3
  clear hkm hk c1 c2 d1 d2
  go_wp2_with fail
  refine (K2.out _).mono ?_
  rintro r w0 ⟨rfl, rfl⟩
  clear e1
  go_wp2_with fail
  generalize hA : (ByteArray.mk #[97, 98, 99, 100, 101, 102, 103, 104, 105, 106, 107, 108, 109, 110, 111, 112, 113, 114, 115, 116, 117, 118, 119, 120, 121, 122]) = A
  have hAs : A.size = 26 := by rw [← hA]; rfl
  have HA := Lib.hid (show A = abcB from hA.symm)
  clear hA
  have hst : TW k c w0.heap.size w0 (.slice none 0 0) (.int .i64 0) w0 := ⟨0, Nat.zero_le _, rfl, World.ownsRow_nil _ _ _ _, Below.refl _ _⟩
  have HST := Lib.hid hst; clear hst
  generalize hB : w0.heap.size = B at *
  have HB := Lib.hid hB; clear hB
  go_loopw [8, 11] (fun v i wr => TW k c B w0 v i wr) (fun _ i _ => k - (intOf i).toNat)
  case atStart => exact HST.out
  case round =>
    obtain ⟨i, hi, rfl, ho, hbl⟩ := hrel
    have HO := Lib.hid ho; have HBL := Lib.hid hbl
    clear ho hbl
    by_cases hlt : i < k
    · have h1 : (i : Int) < (k : Int) := by omega
      obtain ⟨j, hj⟩ : ∃ j, j = (i + c) % k := ⟨_, rfl⟩
      have hj1 : j < k := by rw [hj]; exact Nat.mod_lt _ (by omega)
      have hj2 : ((i : Int) + (c : Int)) % (k : Int) = (j : Int) := by rw [hj]; simp
      have hk0 : ((k : Int) == 0) = false := by rw [beq_eq_false_iff_ne]; omega
      have hj4 : (j : Int) + 1 ≤ 26 := by omega
      have hj5 : (0 : Int) ≤ (j : Int) + 1 := by omega
      have hj6 : ((j : Int) + 1).toNat = j + 1 := by omega
      have HJ := Lib.hid hj
      clear hj
      have hBs := Lib.hid HBL.out.size
      go_wp2_with (at_builtin; refine wpl_app1 Try.underlying22 info_string rfl (by decide) _ rfl _ _ rfl B u8 i (sv (begs k c i)) rfl (HO.out.alloc _) wr.heap.size (.string (A.extract 0 (j + 1))) rfl rfl (by simp) (by omega) (by have := HBL.out.size; have := HB.out; simp; omega) ?_)
      intro v' w2 h2 hg2
      have HR := Lib.hid (TW.step hlt HO.out HBL.out HB.out (by rw [HA.out, HJ.out] at h2; exact h2) hg2)
      clear h2 hg2 hBs
      go_wp2
      go_roundw
      case rel => exact HR.out
      case measure => simp [intOf]; omega
    · obtain rfl : i = k := by omega
      have h1 : ¬ (i : Int) < (i : Int) := by omega
      obtain ⟨ad, cap, rfl, hcap, hrd, hlen, hblk⟩ := own_view HO.out
      have HRD := Lib.hid hrd
      clear hblk hlen hrd HO
      have KT := Lib.hid (fun W (h : Below wr.heap.size wr W) => twice_any ad i cap (begs i c i) W (begs_len _ _ _) hcap (by omega) (HRD.out.on h))
      have KS := Lib.hid (fun W (h : Below wr.heap.size wr W) => strings_any ad i cap (begs i c i) W (begs_len _ _ _) (by omega) (HRD.out.on h))
      have KO := Lib.hid (fun W (h : Below wr.heap.size wr W) => sort_any ad i cap (begs i c i) W (begs_len _ _ _) hcap (by omega) (HRD.out.on h))
      go_wp2_with fail
      refine (KT.out _ (Below.refl _ _)).mono ?_
      rintro r w1 ⟨lo, f, rfl, hT, hb1⟩
      obtain ⟨rfl, rfl⟩ := turned_once (fun q hq => begs_key i c i q hq) (by rw [abc_len]; omega) hc hT
      have B1 := Lib.hid hb1
      clear hT hb1
      go_wp2_with fail
      refine (KS.out _ B1.out).mono ?_
      rintro r w2 ⟨v2, rfl, ho2, hb2⟩
      have B2 := Lib.hid (below_on B1.out hb2)
      have HO2 := Lib.hid ho2
      have HS12 := Lib.hid hb2.size
      clear hb2 ho2
      go_wp2_with fail
      refine (K3.out _).mono ?_
      rintro r w3 ⟨rfl, rfl⟩
      obtain ⟨b, o, rfl, _, cx⟩ := (HRD.out.on B2.out) x (by rw [sv_len, begs_len]; exact hx)
      rw [sv_get _ _ (by rw [begs_len]; exact hx)] at cx
      have hx0 : (0 : Int) ≤ (x : Int) := by omega
      have hx1 : (x : Int) < (i : Int) := by omega
      have HKX := Lib.hid (keyB_def (begs i c i) x)
      generalize (begs i c i).getD x ByteArray.empty = S at cx HKX
      rw [sv_len, begs_len] at HO2
      have hBs := B2.out.size
      have hB1 := B1.out.size
      have hB12 := HS12.out
      go_wp2_with (at_builtin; refine wpl_app1 Try.underlying22 info_string rfl (by decide) _ rfl _ _ rfl w1.heap.size v2 i (sv (begs i c i)) rfl (HO2.out.alloc _) w3.heap.size (.string S) rfl rfl (by simp) (by omega) (by simp; omega) ?_)
      intro v4 w4 ho4 hg4
      have hb4 : Below wr.heap.size wr w4 := (B2.out.alloc hBs _).grown hg4 (by simp; omega) (fun g hg => by have := (HO2.out.lt g hg).1; omega)
      have B4 := Lib.hid hb4
      rw [show sv (begs i c i) ++ [Value.string S] = sv (begs i c i ++ [S]) by simp [sv]] at ho4
      obtain ⟨ad4, cap4, rfl, hcap4, hrd4, hlen4, _⟩ := own_view ho4
      have KT4 := Lib.hid (twice_any ad4 (i + 1) cap4 (begs i c i ++ [S]) w4 (by simp [begs_len]) hcap4 (by omega) hrd4)
      clear ho4 hg4 hb4 hrd4 hlen4 hBs hB1 hB12 cx
      go_wp2_with fail
      refine KT4.out.mono ?_
      rintro r w5 ⟨lo, f, rfl, hT, hb5⟩
      obtain ⟨rfl, hlo⟩ := turned_twice (abc := abcB.data.toList) (c := c) (fun q hq => by rw [key_more _ _ _ (by rw [begs_len]; exact hq)]; exact begs_key i c i q hq) hx (by
        have h := key_last (begs i c i) S
        rw [begs_len] at h
        rw [h, HKX.out, key_more _ _ _ (by rw [begs_len]; exact hx)]) (by rw [abc_len]; omega) hc hT
      obtain rfl : i = lo := hlo.symm
      have B5 := Lib.hid (below_on B4.out hb5)
      clear hT hb5
      go_wp2_with fail
      refine (KO.out _ B5.out).mono ?_
      rintro r w6 ⟨g, rfl, _, hk6, hw6⟩
      have B6 := Lib.hid (below_on B5.out hw6)
      have HK6 := Lib.hid hk6
      have HSI := Lib.hid (fun q hq => turned_sort (abc := abcB.data.toList) (keyB (begs i c i)) (fun q hq => begs_key i c i q hq) (by rw [abc_len]; omega) hc q hq)
      have HSL := Lib.hid (srt_len Op.bytesLess (keyB (begs i c i)) 0 i)
      generalize srt Op.bytesLess (keyB (begs i c i)) 0 i = S6 at *
      clear hk6 hw6
      have hii : ((i : Int) != (i : Int)) = false := by simp
      have HB6 := Lib.hid (show Below w0.heap.size w0 w6 by
        rw [HB.out]
        exact HBL.out.trans (B6.out.mono (by have := HBL.out.size; have := HB.out; omega)))
      go_wp2
      go_loopw [19] (fun q wr => ∃ n d : Nat, n ≤ i ∧ q = .int .i64 (n : Int) ∧ wr = w6.drewN d) (fun q _ => i - (intOf q).toNat)
      case atStart => exact ⟨0, 0, Nat.zero_le _, rfl, rfl⟩
      case round =>
        obtain ⟨n, d, hn, rfl, hd⟩ := hrel
        by_cases hni : n < i
        · have h1 : (n : Int) < (i : Int) := by omega
          have h2 : (0 : Int) ≤ (n : Int) := by omega
          have c6 : w6.cell? ⟨g, n, none⟩ = some (.int .i64 ((S6.getD n 0 : Nat) : Int)) := (HK6.out.cell n).trans (iv_get _ _ (by rw [HSL.out]; exact hni))
          rw [HSI.out n hni] at c6
          have s1 : IntKind.i64.wrap ((n : Int) + (i : Int)) = (n : Int) + (i : Int) := IntWalk.i64_in _ (by omega)
          have s2 : IntKind.i64.wrap ((n : Int) + (i : Int) - (c : Int)) = (n : Int) + (i : Int) - (c : Int) := IntWalk.i64_in _ (by omega)
          have s3 : ((n : Int) + (i : Int) - (c : Int)).tmod (i : Int) = (((n + i - c) % i : Nat) : Int) := by
            rw [show (n : Int) + (i : Int) - (c : Int) = ((n + i - c : Nat) : Int) by omega, Int.ofNat_tmod]
          have s5 : ((i : Int) == 0) = false := by rw [beq_eq_false_iff_ne]; omega
          have s4 : (n + i - c) % i < i := Nat.mod_lt _ (by omega)
          generalize (n + i - c) % i = T at *
          have s6 : ((T : Int) != (T : Int)) = false := by simp
          subst hd
          go_wp2
          go_quiet (fail)
          go_wp2
          go_roundw
          case rel => exact ⟨n + 1, _, by omega, by go_num, rfl⟩
          case measure => simp [intOf]; omega
        · obtain rfl : n = i := by omega
          have h1 : ¬ (n : Int) < (n : Int) := by omega
          have HBW := Lib.hid (below_drewN HB6.out d)
          subst hd
          go_wp2_with fail
          refine (awake_any _).mono ?_
          rintro r w9 ⟨rfl, hb9⟩
          have B9 := Lib.hid (below_on HBW.out hb9)
          clear hb9
          go_wp2
          go_ret
          exact BoolBelow.mk rfl B9.out
end Go.Proofs.Ytbaekknbnognmaa
